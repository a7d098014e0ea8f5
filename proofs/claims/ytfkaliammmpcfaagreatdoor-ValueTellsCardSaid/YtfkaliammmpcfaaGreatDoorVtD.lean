/-
  chattellaw08.ValueTells: its walk (written by gen_vtd.py).
-/
import Derived.Test.YtfkaliammmpcfaaGreatDoorVtC
import Derived.Test.YtfkaliammmpcfaaGreatDoorVlR
import Derived.Test.YtfkaliammmpcfaaGreatDoorFq
namespace Go.Proofs.YtfkaliammmpcfaaGreatDoor
open Go.RowKit Go.Lib Go.Shelf Go.Maps
set_option linter.unusedVariables false
set_option linter.unusedSimpArgs false

theorem box_twoD (w : World) (a b : Int) : (w.alloc (.cells #[.int .i64 a, .int .i64 b] 24)).cell? ⟨w.heap.size, 0, none⟩ = some (.int .i64 a) ∧ (w.alloc (.cells #[.int .i64 a, .int .i64 b] 24)).cell? ⟨w.heap.size, 1, none⟩ = some (.int .i64 b) := by
  refine ⟨?_, ?_⟩
  all_goals rw [World.cell?_alloc_at _ _ _ _ rfl]
  all_goals rfl
theorem sl_fct {w : World} {v : Value} {l : List Fct} (h : SlFct w v l) : ∃ a n c, v = .slice a n c := by
  rcases h with ⟨_, a, c, rfl⟩ | ⟨_, b, o, c, rfl, _⟩
  · exact ⟨_, _, _, rfl⟩
  · exact ⟨_, _, _, rfl⟩
theorem val_new (w : World) (b : Bool) (n d : Int) : (w.alloc (.cells #[.bool b, .int .i64 n, .int .i64 d] 31)).cell? ⟨w.heap.size, 0, none⟩ = some (.bool b) ∧ (w.alloc (.cells #[.bool b, .int .i64 n, .int .i64 d] 31)).cell? ⟨w.heap.size, 1, none⟩ = some (.int .i64 n) ∧ (w.alloc (.cells #[.bool b, .int .i64 n, .int .i64 d] 31)).cell? ⟨w.heap.size, 2, none⟩ = some (.int .i64 d) := by
  refine ⟨?_, ?_, ?_⟩
  all_goals rw [World.cell?_alloc_at _ _ _ _ rfl]
  all_goals rfl
set_option maxRecDepth 100000 in
set_option maxHeartbeats 8000000 in
theorem vtells_walk (w : World) (t : List Nd) (hbd : BdT t) (v0 : Value) (h0 : SlT w v0 t) (L : List Tol) (v1 : Value) (h1 : SlTol w v1 L) (hok : ∀ j, j < L.length → (L.getD j default).Ok) (p day : Int) (C : KndW w) :
    Calls Tryz.prog 3 #[v0, v1, .agg #[.int .i64 p, .int .i64 day]] w fun e w' => e = .returned (.bool true) ∧ Below w.heap.size w w' := by
  have HAw := Lib.hid (fun (w' : World) (hb : Below w.heap.size w w') => awake8_any w' (C.keep hb))
  have HS := Lib.hid (And.intro h0 h1)
  obtain ⟨a0, c0, rfl⟩ := h0.slice
  obtain ⟨a1, c1', rfl⟩ : ∃ a c, v1 = .slice a L.length c := by
    rcases h1 with ⟨rfl, a, c, rfl⟩ | ⟨_, b, o, c, rfl, _⟩
    · exact ⟨_, _, rfl⟩
    · exact ⟨_, _, rfl⟩
  have HB0 := Lib.hid (newF w (.cells #[.int .i64 p, .int .i64 day] 24))
  obtain ⟨q0, q1⟩ := box_twoD w p day
  have HQ0 := Lib.hid (And.intro q0 q1)
  by_cases l0 : 100 < t.length
  · have i_l0 : (100 : Int) < (t.length : Int) := by omega
    clear h0 h1 hok hbd C HS q0 q1
    go_enter Tryz.func3, Tryz.ntmps3
    go_wp2_with fail
    refine (HAw.out _ HB0.out).mono ?_
    rintro e w2 ⟨rfl, hb2⟩
    have HB2 := Lib.hid (onF HB0.out hb2)
    clear hb2
    go_wp2_with fail
    go_ret
    exact ⟨rfl, HB2.out⟩
  have i_l0 : ¬ (100 : Int) < (t.length : Int) := by omega
  by_cases l1 : 60 < L.length
  · have i_l1 : (60 : Int) < (L.length : Int) := by omega
    clear h0 h1 hok hbd C HS q0 q1
    go_enter Tryz.func3, Tryz.ntmps3
    go_wp2_with fail
    refine (HAw.out _ HB0.out).mono ?_
    rintro e w2 ⟨rfl, hb2⟩
    have HB2 := Lib.hid (onF HB0.out hb2)
    clear hb2
    go_wp2_with fail
    go_ret
    exact ⟨rfl, HB2.out⟩
  have i_l1 : ¬ (60 : Int) < (L.length : Int) := by omega
  have HMd := Lib.hid (fun (w' : World) (hs : SlTol w' (.slice a1 L.length c1') L) => made_any w' _ L hs hok)
  have hrel := rel_made L L.length (Nat.le_refl _) hok
  rw [List.take_length] at hrel
  have hOk := plF_ok L (ok_mem hok)
  have HRel := Lib.hid (And.intro hrel.1 hOk)
  have HLn := Lib.hid (show t.length ≤ 100 ∧ L.length ≤ 60 from ⟨by omega, by omega⟩)
  have HVf := Lib.hid (fun (w' : World) (hb : Below w.heap.size w w') {B bf bc nn : Nat} {Df Dc : DataW Unit} (h : FacM w' B bf bc nn Df Dc) {l : List Fct} (hr : RelV vR Df l) (hO : OkL l) => vat_any t (by omega) hbd _ w' (h0.keep hb) (C.keep hb) p day h hr hO)
  have HWr := Lib.hid (fun (w' : World) (hb : Below w.heap.size w w') => lwrong_any t (by omega) hbd _ w' (h0.keep hb) p)
  have HPl := Lib.hid (fun (w' : World) (hb : Below w.heap.size w w') => plain_any w' _ L (h1.keep hb) (by omega) hok)
  by_cases hw : wrN t p = 0
  rotate_left
  · have hw' : (wrN t p != 0) = true := bne_iff_ne.2 hw
    have hw2 : (wrN t p == 0) = false := beq_false_of_ne hw
    have hE : atE t (plF L) p day = wrN t p := by unfold atE; rw [if_pos hw]
    have hV : atV t (plF L) p day = some none := by unfold atV; rw [if_pos hw]
    have HEV := Lib.hid (And.intro hE hV)
    clear h0 h1 hok hbd C hrel hOk hw hE hV l0 l1 HPl
    generalize hk : wrN t p = k at *
    go_enter Tryz.func3, Tryz.ntmps3
    go_wp2_with fail
    refine (HMd.out _ (HS.out.2.keep HB0.out)).mono ?_
    rintro e w2 ⟨B, bf, bcc, rfl, hm, hB, hbf, hbc, hb2⟩
    have HB2 := Lib.hid (onF HB0.out hb2)
    have HVa := Lib.hid (HVf.out _ HB2.out hm HRel.out.1 HRel.out.2)
    rw [HEV.out.1, HEV.out.2] at HVa
    simp only [vB, vN, vD, vE] at HVa
    have HQ2 := Lib.hid (And.intro (keepF hb2 HQ0.out.1) (keepF hb2 HQ0.out.2))
    have y0 := HQ2.out.1
    have y1 := HQ2.out.2
    clear hm hB hbf hbc hb2 HMd HVf q0 q1 i_l0 i_l1
    go_wp2_with fail
    refine HVa.out.mono ?_
    rintro e w3 ⟨rfl, hb3⟩
    have hbx := onF hb3 (newF w3 (.cells #[.bool false, .int .i64 0, .int .i64 0] 31))
    have HB3 := Lib.hid (onF HB2.out hbx)
    have HQ3 := Lib.hid (And.intro (keepF hbx HQ2.out.1) (keepF hbx HQ2.out.2))
    have HX3 := Lib.hid (val_new w3 false 0 0)
    clear hb3 hbx HVa y0 y1 HQ2 HB2
    have y0 := HQ3.out.1
    go_wp2_with fail
    refine (HWr.out _ HB3.out).mono ?_
    rintro e w4 ⟨rfl, hb4⟩
    have HB4 := Lib.hid (onF HB3.out hb4)
    have x0 := keepF hb4 HX3.out.1
    have x1 := keepF hb4 HX3.out.2.1
    have x2 := keepF hb4 HX3.out.2.2
    have y1 := keepF hb4 HQ3.out.2
    have HQ4 := Lib.hid (And.intro (keepF hb4 HQ3.out.1) y1)
    have HX4 := Lib.hid (And.intro x0 (And.intro x1 x2))
    clear hb4 y0 HWr HQ3 HX3 HB3
    go_wp2_with fail
    refine (HAw.out _ HB4.out).mono ?_
    rintro e w9 ⟨rfl, hb9⟩
    have HB9 := Lib.hid (onF HB4.out hb9)
    clear hb9
    go_wp2_with fail
    go_ret
    exact ⟨rfl, HB9.out⟩
  have hw' : (wrN t p != 0) = false := by rw [hw]; rfl
  rw [hw] at HWr
  by_cases hd : day < 0 ∨ 73048 < day
  · have hE : atE t (plF L) p day = 18 := by unfold atE; rw [if_neg (by omega), if_pos hd]
    have hV : atV t (plF L) p day = some none := by unfold atV; rw [if_neg (by omega), if_pos hd]
    have HEV := Lib.hid (And.intro hE hV)
    clear h0 h1 hok hbd C hrel hOk hw hw' hE hV l0 l1 HPl
    rcases hd with hd | hd
    · skip
      go_enter Tryz.func3, Tryz.ntmps3
      go_wp2_with fail
      refine (HMd.out _ (HS.out.2.keep HB0.out)).mono ?_
      rintro e w2 ⟨B, bf, bcc, rfl, hm, hB, hbf, hbc, hb2⟩
      have HB2 := Lib.hid (onF HB0.out hb2)
      have HVa := Lib.hid (HVf.out _ HB2.out hm HRel.out.1 HRel.out.2)
      rw [HEV.out.1, HEV.out.2] at HVa
      simp only [vB, vN, vD, vE] at HVa
      have HQ2 := Lib.hid (And.intro (keepF hb2 HQ0.out.1) (keepF hb2 HQ0.out.2))
      have y0 := HQ2.out.1
      have y1 := HQ2.out.2
      clear hm hB hbf hbc hb2 HMd HVf q0 q1 i_l0 i_l1
      go_wp2_with fail
      refine HVa.out.mono ?_
      rintro e w3 ⟨rfl, hb3⟩
      have hbx := onF hb3 (newF w3 (.cells #[.bool false, .int .i64 0, .int .i64 0] 31))
      have HB3 := Lib.hid (onF HB2.out hbx)
      have HQ3 := Lib.hid (And.intro (keepF hbx HQ2.out.1) (keepF hbx HQ2.out.2))
      have HX3 := Lib.hid (val_new w3 false 0 0)
      clear hb3 hbx HVa y0 y1 HQ2 HB2
      have y0 := HQ3.out.1
      go_wp2_with fail
      refine (HWr.out _ HB3.out).mono ?_
      rintro e w4 ⟨rfl, hb4⟩
      have HB4 := Lib.hid (onF HB3.out hb4)
      have x0 := keepF hb4 HX3.out.1
      have x1 := keepF hb4 HX3.out.2.1
      have x2 := keepF hb4 HX3.out.2.2
      have y1 := keepF hb4 HQ3.out.2
      have HQ4 := Lib.hid (And.intro (keepF hb4 HQ3.out.1) y1)
      have HX4 := Lib.hid (And.intro x0 (And.intro x1 x2))
      clear hb4 y0 HWr HQ3 HX3 HB3
      go_wp2_with fail
      refine (HAw.out _ HB4.out).mono ?_
      rintro e w9 ⟨rfl, hb9⟩
      have HB9 := Lib.hid (onF HB4.out hb9)
      clear hb9
      go_wp2_with fail
      go_ret
      exact ⟨rfl, HB9.out⟩
    · have hd2 : ¬ day < 0 := by omega
      go_enter Tryz.func3, Tryz.ntmps3
      go_wp2_with fail
      refine (HMd.out _ (HS.out.2.keep HB0.out)).mono ?_
      rintro e w2 ⟨B, bf, bcc, rfl, hm, hB, hbf, hbc, hb2⟩
      have HB2 := Lib.hid (onF HB0.out hb2)
      have HVa := Lib.hid (HVf.out _ HB2.out hm HRel.out.1 HRel.out.2)
      rw [HEV.out.1, HEV.out.2] at HVa
      simp only [vB, vN, vD, vE] at HVa
      have HQ2 := Lib.hid (And.intro (keepF hb2 HQ0.out.1) (keepF hb2 HQ0.out.2))
      have y0 := HQ2.out.1
      have y1 := HQ2.out.2
      clear hm hB hbf hbc hb2 HMd HVf q0 q1 i_l0 i_l1
      go_wp2_with fail
      refine HVa.out.mono ?_
      rintro e w3 ⟨rfl, hb3⟩
      have hbx := onF hb3 (newF w3 (.cells #[.bool false, .int .i64 0, .int .i64 0] 31))
      have HB3 := Lib.hid (onF HB2.out hbx)
      have HQ3 := Lib.hid (And.intro (keepF hbx HQ2.out.1) (keepF hbx HQ2.out.2))
      have HX3 := Lib.hid (val_new w3 false 0 0)
      clear hb3 hbx HVa y0 y1 HQ2 HB2
      have y0 := HQ3.out.1
      go_wp2_with fail
      refine (HWr.out _ HB3.out).mono ?_
      rintro e w4 ⟨rfl, hb4⟩
      have HB4 := Lib.hid (onF HB3.out hb4)
      have x0 := keepF hb4 HX3.out.1
      have x1 := keepF hb4 HX3.out.2.1
      have x2 := keepF hb4 HX3.out.2.2
      have y1 := keepF hb4 HQ3.out.2
      have HQ4 := Lib.hid (And.intro (keepF hb4 HQ3.out.1) y1)
      have HX4 := Lib.hid (And.intro x0 (And.intro x1 x2))
      clear hb4 y0 HWr HQ3 HX3 HB3
      go_wp2_with fail
      refine (HAw.out _ HB4.out).mono ?_
      rintro e w9 ⟨rfl, hb9⟩
      have HB9 := Lib.hid (onF HB4.out hb9)
      clear hb9
      go_wp2_with fail
      go_ret
      exact ⟨rfl, HB9.out⟩
  have hd1 : ¬ day < 0 := fun h => hd (.inl h)
  have hd2 : ¬ 73048 < day := fun h => hd (.inr h)
  obtain ⟨z1, n, rfl, hn, hm⟩ := wrN_zero hw
  have hN := (num_at z1 hn hm).1
  have hE : atE t (plF L) (n : Int) day = vE (vlA t (fxL (plF L) day) n) := by unfold atE; rw [if_neg (by omega), if_neg hd]; rfl
  have hV : atV t (plF L) (n : Int) day = vlA t (fxL (plF L) day) n := by unfold atV; rw [if_neg (by omega), if_neg hd]; rfl
  have HEV := Lib.hid (And.intro hE hV)
  rcases h0 with ⟨h, _⟩ | ⟨_, b, o, cap, hv, hc1, hc2, hNd⟩
  · rw [h] at hn; exact absurd hn (Nat.not_lt_zero _)
  injection hv with hv1 _ hv3
  subst hv1 hv3
  have HRv := Lib.hid (fun (w' : World) (hb : Below w.heap.size w w') (sa : Option Addr) (sn sc : Nat) (hs : SlFct w' (.slice sa sn sc) (plF L)) => rvl_any t (by omega) b o c0 hc1 (fun q hq e => num_ok z1 hbd hq e) day (by have := hrel.2.2.1; omega) hOk sa sn sc (szA t n) n hN (Nat.le_refl _) w' (hNd.keep hb) hs)
  clear h1 hok hbd C hrel hOk hw hw' hE hV l0 l1 hd z1 hm hN hc1 hc2 hNd hn
  unfold rvT at HRv
  generalize vlA t (fxL (plF L) day) n = V at *
  match V, HRv, HEV with
  | none, HRv, HEV =>
    simp only [vB, vN, vD, vE] at HRv
    go_enter Tryz.func3, Tryz.ntmps3
    go_wp2_with fail
    refine (HMd.out _ (HS.out.2.keep HB0.out)).mono ?_
    rintro e w2 ⟨B, bf, bcc, rfl, hm, hB, hbf, hbc, hb2⟩
    have HB2 := Lib.hid (onF HB0.out hb2)
    have HVa := Lib.hid (HVf.out _ HB2.out hm HRel.out.1 HRel.out.2)
    rw [HEV.out.1, HEV.out.2] at HVa
    simp only [vB, vN, vD, vE] at HVa
    have HQ2 := Lib.hid (And.intro (keepF hb2 HQ0.out.1) (keepF hb2 HQ0.out.2))
    have y0 := HQ2.out.1
    have y1 := HQ2.out.2
    clear hm hB hbf hbc hb2 HMd HVf q0 q1 i_l0 i_l1
    go_wp2_with fail
    refine HVa.out.mono ?_
    rintro e w3 ⟨rfl, hb3⟩
    have hbx := onF hb3 (newF w3 (.cells #[.bool false, .int .i64 0, .int .i64 0] 31))
    have HB3 := Lib.hid (onF HB2.out hbx)
    have HQ3 := Lib.hid (And.intro (keepF hbx HQ2.out.1) (keepF hbx HQ2.out.2))
    have HX3 := Lib.hid (val_new w3 false 0 0)
    clear hb3 hbx HVa y0 y1 HQ2 HB2
    have y0 := HQ3.out.1
    go_wp2_with fail
    refine (HWr.out _ HB3.out).mono ?_
    rintro e w4 ⟨rfl, hb4⟩
    have HB4 := Lib.hid (onF HB3.out hb4)
    have x0 := keepF hb4 HX3.out.1
    have x1 := keepF hb4 HX3.out.2.1
    have x2 := keepF hb4 HX3.out.2.2
    have y1 := keepF hb4 HQ3.out.2
    have HQ4 := Lib.hid (And.intro (keepF hb4 HQ3.out.1) y1)
    have HX4 := Lib.hid (And.intro x0 (And.intro x1 x2))
    clear hb4 y0 HWr HQ3 HX3 HB3
    go_wp2_with fail
    refine (HPl.out _ HB4.out).mono ?_
    rintro e w5 ⟨fa, fb, rfl, hfa, hfb, hb5⟩
    obtain ⟨sa, sn, sc, rfl⟩ : ∃ a n c, fa = .slice a n c := sl_fct hfa
    have HB5 := Lib.hid (onF HB4.out hb5)
    have HR5 := Lib.hid (HRv.out _ HB5.out sa sn sc hfa)
    have y0 := keepF hb5 HQ4.out.1
    have y1 := keepF hb5 HQ4.out.2
    have HX5 := Lib.hid (And.intro (keepF hb5 HX4.out.1) (And.intro (keepF hb5 HX4.out.2.1) (keepF hb5 HX4.out.2.2)))
    clear hfa hfb hb5 HPl HRv HQ4 HX4 x0 x1 x2
    go_wp2_with fail
    refine HR5.out.mono ?_
    rintro e w6 ⟨rfl, hb6⟩
    have hb7 := onF hb6 (newF w6 (.cells #[.int .i64 0, .int .i64 0] 29))
    have HB7 := Lib.hid (onF HB5.out hb7)
    have x0 := keepF hb7 HX5.out.1
    have x1 := keepF hb7 HX5.out.2.1
    have x2 := keepF hb7 HX5.out.2.2
    clear hb6 hb7 HR5 HX5 y0 y1
    go_wp2_with fail
    refine (HAw.out _ HB7.out).mono ?_
    rintro e w9 ⟨rfl, hb9⟩
    have HB9 := Lib.hid (onF HB7.out hb9)
    clear hb9
    go_wp2_with fail
    go_ret
    exact ⟨rfl, HB9.out⟩
  | some none, HRv, HEV =>
    simp only [vB, vN, vD, vE] at HRv
    go_enter Tryz.func3, Tryz.ntmps3
    go_wp2_with fail
    refine (HMd.out _ (HS.out.2.keep HB0.out)).mono ?_
    rintro e w2 ⟨B, bf, bcc, rfl, hm, hB, hbf, hbc, hb2⟩
    have HB2 := Lib.hid (onF HB0.out hb2)
    have HVa := Lib.hid (HVf.out _ HB2.out hm HRel.out.1 HRel.out.2)
    rw [HEV.out.1, HEV.out.2] at HVa
    simp only [vB, vN, vD, vE] at HVa
    have HQ2 := Lib.hid (And.intro (keepF hb2 HQ0.out.1) (keepF hb2 HQ0.out.2))
    have y0 := HQ2.out.1
    have y1 := HQ2.out.2
    clear hm hB hbf hbc hb2 HMd HVf q0 q1 i_l0 i_l1
    go_wp2_with fail
    refine HVa.out.mono ?_
    rintro e w3 ⟨rfl, hb3⟩
    have hbx := onF hb3 (newF w3 (.cells #[.bool false, .int .i64 0, .int .i64 0] 31))
    have HB3 := Lib.hid (onF HB2.out hbx)
    have HQ3 := Lib.hid (And.intro (keepF hbx HQ2.out.1) (keepF hbx HQ2.out.2))
    have HX3 := Lib.hid (val_new w3 false 0 0)
    clear hb3 hbx HVa y0 y1 HQ2 HB2
    have y0 := HQ3.out.1
    go_wp2_with fail
    refine (HWr.out _ HB3.out).mono ?_
    rintro e w4 ⟨rfl, hb4⟩
    have HB4 := Lib.hid (onF HB3.out hb4)
    have x0 := keepF hb4 HX3.out.1
    have x1 := keepF hb4 HX3.out.2.1
    have x2 := keepF hb4 HX3.out.2.2
    have y1 := keepF hb4 HQ3.out.2
    have HQ4 := Lib.hid (And.intro (keepF hb4 HQ3.out.1) y1)
    have HX4 := Lib.hid (And.intro x0 (And.intro x1 x2))
    clear hb4 y0 HWr HQ3 HX3 HB3
    go_wp2_with fail
    refine (HPl.out _ HB4.out).mono ?_
    rintro e w5 ⟨fa, fb, rfl, hfa, hfb, hb5⟩
    obtain ⟨sa, sn, sc, rfl⟩ : ∃ a n c, fa = .slice a n c := sl_fct hfa
    have HB5 := Lib.hid (onF HB4.out hb5)
    have HR5 := Lib.hid (HRv.out _ HB5.out sa sn sc hfa)
    have y0 := keepF hb5 HQ4.out.1
    have y1 := keepF hb5 HQ4.out.2
    have HX5 := Lib.hid (And.intro (keepF hb5 HX4.out.1) (And.intro (keepF hb5 HX4.out.2.1) (keepF hb5 HX4.out.2.2)))
    clear hfa hfb hb5 HPl HRv HQ4 HX4 x0 x1 x2
    go_wp2_with fail
    refine HR5.out.mono ?_
    rintro e w6 ⟨rfl, hb6⟩
    have hb7 := onF hb6 (newF w6 (.cells #[.int .i64 0, .int .i64 0] 29))
    have HB7 := Lib.hid (onF HB5.out hb7)
    have x0 := keepF hb7 HX5.out.1
    have x1 := keepF hb7 HX5.out.2.1
    have x2 := keepF hb7 HX5.out.2.2
    clear hb6 hb7 HR5 HX5 y0 y1
    go_wp2_with fail
    refine (HAw.out _ HB7.out).mono ?_
    rintro e w9 ⟨rfl, hb9⟩
    have HB9 := Lib.hid (onF HB7.out hb9)
    clear hb9
    go_wp2_with fail
    go_ret
    exact ⟨rfl, HB9.out⟩
  | some (some r), HRv, HEV =>
    obtain ⟨rn, hrn⟩ : ∃ x, x = r.num := ⟨_, rfl⟩
    obtain ⟨rd, hrd⟩ : ∃ x : Int, x = ((r.den : Nat) : Int) := ⟨_, rfl⟩
    have HRq := Lib.hid (show vN (some (some r)) = rn ∧ vD (some (some r)) = rd from ⟨hrn.symm, hrd.symm⟩)
    rw [HRq.out.1, HRq.out.2] at HRv
    simp only [vB, vE] at HRv
    clear hrn hrd
    go_enter Tryz.func3, Tryz.ntmps3
    go_wp2_with fail
    refine (HMd.out _ (HS.out.2.keep HB0.out)).mono ?_
    rintro e w2 ⟨B, bf, bcc, rfl, hm, hB, hbf, hbc, hb2⟩
    have HB2 := Lib.hid (onF HB0.out hb2)
    have HVa := Lib.hid (HVf.out _ HB2.out hm HRel.out.1 HRel.out.2)
    rw [HEV.out.1, HEV.out.2, HRq.out.1, HRq.out.2] at HVa
    simp only [vB, vE] at HVa
    have HQ2 := Lib.hid (And.intro (keepF hb2 HQ0.out.1) (keepF hb2 HQ0.out.2))
    have y0 := HQ2.out.1
    have y1 := HQ2.out.2
    clear hm hB hbf hbc hb2 HMd HVf q0 q1 i_l0 i_l1
    go_wp2_with fail
    refine HVa.out.mono ?_
    rintro e w3 ⟨rfl, hb3⟩
    have hbx := onF hb3 (newF w3 (.cells #[.bool true, .int .i64 rn, .int .i64 rd] 31))
    have HB3 := Lib.hid (onF HB2.out hbx)
    have HQ3 := Lib.hid (And.intro (keepF hbx HQ2.out.1) (keepF hbx HQ2.out.2))
    have HX3 := Lib.hid (val_new w3 true rn rd)
    clear hb3 hbx HVa y0 y1 HQ2 HB2
    have y0 := HQ3.out.1
    go_wp2_with fail
    refine (HWr.out _ HB3.out).mono ?_
    rintro e w4 ⟨rfl, hb4⟩
    have HB4 := Lib.hid (onF HB3.out hb4)
    have x0 := keepF hb4 HX3.out.1
    have x1 := keepF hb4 HX3.out.2.1
    have x2 := keepF hb4 HX3.out.2.2
    have y1 := keepF hb4 HQ3.out.2
    have HQ4 := Lib.hid (And.intro (keepF hb4 HQ3.out.1) y1)
    have HX4 := Lib.hid (And.intro x0 (And.intro x1 x2))
    clear hb4 y0 HWr HQ3 HX3 HB3
    go_wp2_with fail
    refine (HPl.out _ HB4.out).mono ?_
    rintro e w5 ⟨fa, fb, rfl, hfa, hfb, hb5⟩
    obtain ⟨sa, sn, sc, rfl⟩ : ∃ a n c, fa = .slice a n c := sl_fct hfa
    have HB5 := Lib.hid (onF HB4.out hb5)
    have HR5 := Lib.hid (HRv.out _ HB5.out sa sn sc hfa)
    have y0 := keepF hb5 HQ4.out.1
    have y1 := keepF hb5 HQ4.out.2
    have HX5 := Lib.hid (And.intro (keepF hb5 HX4.out.1) (And.intro (keepF hb5 HX4.out.2.1) (keepF hb5 HX4.out.2.2)))
    clear hfa hfb hb5 HPl HRv HQ4 HX4 x0 x1 x2
    go_wp2_with fail
    refine HR5.out.mono ?_
    rintro e w6 ⟨rfl, hb6⟩
    have hb7 := onF hb6 (newF w6 (.cells #[.int .i64 rn, .int .i64 rd] 29))
    have HB7 := Lib.hid (onF HB5.out hb7)
    have x0 := keepF hb7 HX5.out.1
    have x1 := keepF hb7 HX5.out.2.1
    have x2 := keepF hb7 HX5.out.2.2
    clear hb6 hb7 HR5 HX5 y0 y1
    go_wp2_with fail
    refine (HAw.out _ HB7.out).mono ?_
    rintro e w9 ⟨rfl, hb9⟩
    have HB9 := Lib.hid (onF HB7.out hb9)
    clear hb9
    go_wp2_with fail
    go_ret
    exact ⟨rfl, HB9.out⟩

end Go.Proofs.YtfkaliammmpcfaaGreatDoor

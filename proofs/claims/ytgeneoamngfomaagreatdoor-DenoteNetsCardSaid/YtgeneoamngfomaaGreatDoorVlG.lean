/-
  Package value: number, At: what they answer.
-/
import Derived.Test.YtgeneoamngfomaaGreatDoorVlF
namespace Go.Proofs.YtgeneoamngfomaaGreatDoor
open Go.RowKit Go.Lib Go.Shelf Go.Maps
set_option linter.unusedVariables false
set_option linter.unusedSimpArgs false

/-- What is wrong with a place of a term. -/
noncomputable def wrN (t : List Nd) (p : Int) : Int := if (ofK t).2 ≠ 0 then ((ofK t).2 : Nat) else if p < 0 ∨ (t.length : Int) ≤ p then 10 else if mkO (opA t p.toNat) ≠ 1 then 14 else 0
theorem wrN_zero {t : List Nd} {p : Int} (h : wrN t p = 0) : (ofK t).2 = 0 ∧ ∃ n : Nat, p = (n : Int) ∧ n < t.length ∧ mkO (opA t n) = 1 := by
  unfold wrN at h
  by_cases h1 : (ofK t).2 ≠ 0
  · rw [if_pos h1] at h; omega
  · rw [if_neg h1] at h
    by_cases h2 : p < 0 ∨ (t.length : Int) ≤ p
    · rw [if_pos h2] at h; cases h
    · rw [if_neg h2] at h
      by_cases h3 : mkO (opA t p.toNat) ≠ 1
      · rw [if_pos h3] at h; cases h
      · exact ⟨by omega, p.toNat, by omega, by omega, by omega⟩
/-- A number at a place of a right term. -/
theorem num_at {t : List Nd} {n : Nat} (h : (ofK t).2 = 0) (hn : n < t.length) (hm : mkO (opA t n) = 1) : NmA t n ∧ t.length ≤ 64 ∧ (∀ q, q < t.length → opA t q = 1 → OkR (t.getD q default).num (t.getD q default).den ∨ True) := by
  obtain ⟨h1, h2, h3, h4, h5⟩ := ofK_zero h
  exact ⟨NmA.of (szA t n) n (Nat.le_refl _) (h2.all n hn) hm h4, h1, fun _ _ _ => .inr trivial⟩
theorem num_ok {t : List Nd} (h : (ofK t).2 = 0) (hbd : BdT t) {q : Nat} (hq : q < t.length) (e : opA t q = 1) : OkR (t.getD q default).num (t.getD q default).den := by
  obtain ⟨h1, h2, h3, h4, h5⟩ := ofK_zero h
  have hf := h3 q hq
  rw [fldO_one (show (t.getD q default).op = 1 from e), Bool.and_eq_true, decide_eq_true_eq] at hf
  obtain ⟨b1, b2⟩ := hbd q hq
  exact chkE_zero hf.2 b1.1 b1.2 b2.2
theorem key_ok {t : List Nd} (h : (ofK t).2 = 0) {q : Nat} (hq : q < t.length) (e : opA t q = 2) : I64 (t.getD q default).a := by
  have := fld_key (ofK_zero h).2.2.1 hq (.inl e)
  unfold aA at this
  exact ⟨by omega, by omega⟩
set_option maxRecDepth 100000 in
set_option maxHeartbeats 2000000 in
theorem number_any (t : List Nd) (hl : t.length ≤ 1000) (hbd : BdT t) (v : Value) (w : World) (hv : SlT w v t) (C : KndW w) (p : Int) :
    Calls Tryz.prog 161 #[v, .int .i64 p] w fun e w' => (∃ u, e = .returned (.tuple #[u, .int .i64 (wrN t p)]) ∧ (wrN t p ≠ 0 → u = .slice none 0 0) ∧ (wrN t p = 0 → ∃ (n b o cap : Nat), p = (n : Int) ∧ n < t.length ∧ u = .slice (some ⟨b, o + n * 5, none⟩) (szA t n) (cap - n) ∧ v = .slice (some ⟨b, o, none⟩) t.length cap ∧ t.length ≤ cap ∧ cap ≤ 9223372036854775807 ∧ NdA w b o t)) ∧ Below w.heap.size w w' := by
  have HOf := Lib.hid (tof_any t (by omega) hbd v w hv C)
  obtain ⟨E, hE⟩ : ∃ E, E = wrN t p := ⟨_, rfl⟩
  rw [← hE]
  by_cases h1 : (ofK t).2 = 0
  · have e1 : wrN t p = if p < 0 ∨ (t.length : Int) ≤ p then 10 else if mkO (opA t p.toNat) ≠ 1 then 14 else 0 := by unfold wrN; rw [if_neg (by omega)]
    obtain ⟨a1, a2, a3, a4, a5⟩ := ofK_zero h1
    have h0 := whole_len a2
    rcases hv with ⟨rfl, _⟩ | ⟨_, b, o, cap, rfl, hc1, hc2, hN⟩
    · exact absurd h0 (by simp)
    rw [h1] at HOf
    by_cases h2 : p < 0 ∨ (t.length : Int) ≤ p
    · rw [if_pos h2] at e1
      rw [hE, e1]
      have HSz := Lib.hid (fun w' => size_out (some ⟨b, o, none⟩) t.length cap (by omega) p h2 w')
      clear hE e1 h2 hN a1 a2 a3 a4 a5 h1 C hbd
      go_enter Tryz.func161, Tryz.ntmps161
      go_wp2_with fail
      refine (HOf.out).mono ?_
      rintro e w1 ⟨rfl, hb1⟩
      have HB1 := Lib.hid hb1
      clear hb1
      go_wp2_with fail
      refine (HSz.out _).mono ?_
      rintro e w2 ⟨rfl, rfl⟩
      go_wp2_with fail
      go_ret2
      exact ⟨⟨_, rfl, fun _ => rfl, fun h => by cases h⟩, HB1.out⟩
    · rw [if_neg h2] at e1
      obtain ⟨n, rfl⟩ : ∃ n : Nat, p = (n : Int) := ⟨p.toNat, by omega⟩
      have hn : n < t.length := by omega
      rw [Int.toNat_natCast] at e1
      have hT := a2.all n hn
      have HSz := Lib.hid (fun (w' : World) (hb : Below w.heap.size w w') => size_in t (by omega) b o cap hc1 hc2 n hn w' (hN.keep hb) (C.keep hb))
      rw [szE_ok hT] at HSz
      have HSo := Lib.hid (fun (w' : World) (hb : Below w.heap.size w w') => tsort_any (opA t n) w' (C.keep hb))
      have hbd2 := hT.bd
      have HN := Lib.hid hN
      have p0 : (0 : Int) ≤ (n : Int) := by omega
      have p1 : (n : Int) < (t.length : Int) := by omega
      have q0 : (n : Int) + ((szA t n : Nat) : Int) ≤ (t.length : Int) := by omega
      have q1 : (n : Int) ≤ (n : Int) + ((szA t n : Nat) : Int) := by omega
      have q2 : (t.length : Int) ≤ (cap : Int) := by omega
      have q3 : (n : Int) + ((szA t n : Nat) : Int) ≤ 9223372036854775807 := by omega
      have q4 : (n : Int) + ((szA t n : Nat) : Int) ≤ (cap : Int) := by omega
      have q5 : (0 : Int) ≤ (n : Int) + ((szA t n : Nat) : Int) := by omega
      have HEq := Lib.hid hE
      have HE1 := Lib.hid e1
      have hop : (t.getD n default).op = opA t n := rfl
      have HF := Lib.hid (And.intro hn (And.intro hc1 hc2))
      clear hE e1 h2 hN a1 a2 a3 a4 a5 h1 C hbd
      go_enter Tryz.func161, Tryz.ntmps161
      go_wp2_with fail
      refine (HOf.out).mono ?_
      rintro e w1 ⟨rfl, hb1⟩
      have HB1 := Lib.hid hb1
      clear hb1
      go_wp2_with fail
      refine (HSz.out _ HB1.out).mono ?_
      rintro e w2 ⟨rfl, hb2⟩
      have HB2 := Lib.hid (onB HB1.out hb2)
      clear hb2
      obtain ⟨e0, _, _, _, _⟩ := (HN.out.keep HB2.out) n HF.out.1
      rw [hop] at e0
      clear hop
      go_wp2_with fail
      refine (HSo.out _ HB2.out).mono ?_
      rintro e w3 ⟨rfl, hb3⟩
      have HB3 := Lib.hid (onB HB2.out hb3)
      clear hb3
      by_cases h3 : mkO (opA t n) = 1
      · have hz : wrN t (n : Int) = 0 := by rw [HE1.out, if_neg (by omega)]
        have hm1 : (((mkO (opA t n) : Nat) : Int) == 1) = true := by rw [h3]; rfl
        have HZ := Lib.hid (HEq.out.trans hz)
        obtain ⟨r, hr⟩ : ∃ r : Nat, r = mkO (opA t n) := ⟨_, rfl⟩
        rw [← hr] at h3 hm1 ⊢
        subst h3
        clear hz hm1 hr e0
        by_cases hcq : cap = n
        · omega
        have hcq' : ¬ cap - n = 0 := by omega
        go_wp2_with fail
        go_ret2
        refine ⟨⟨_, ?_, fun h => absurd HZ.out h, fun _ => ⟨n, b, o, cap, rfl, HF.out.1, rfl, rfl, HF.out.2.1, HF.out.2.2, HN.out⟩⟩, HB3.out⟩
        rw [HZ.out]
        show Ending.returned (.tuple #[.slice (some ⟨b, o + n * 5, none⟩) (n + szA t n - n) (cap - n), .int .i64 0]) = _
        rw [Nat.add_sub_cancel_left]
      · have hz : wrN t (n : Int) = 14 := by rw [HE1.out, if_pos h3]
        have HZ := Lib.hid (HEq.out.trans hz)
        have hm1 : (((mkO (opA t n) : Nat) : Int) == 1) = false := by simp; omega
        have hm2 : (((mkO (opA t n) : Nat) : Int) != 1) = true := by rw [bne, hm1]; rfl
        generalize ((mkO (opA t n) : Nat) : Int) = r at *
        clear hz h3 e0
        go_wp2_with fail
        go_ret2
        rw [HZ.out]
        exact ⟨⟨_, rfl, fun _ => rfl, fun h => by cases h⟩, HB3.out⟩
  · have e1 : wrN t p = ((ofK t).2 : Nat) := by unfold wrN; rw [if_pos h1]
    have hne : ((((ofK t).2 : Nat) : Int) == 0) = false := by simp; omega
    have hnz : (((ofK t).2 : Nat) : Int) ≠ 0 := by omega
    have hne2 : ((((ofK t).2 : Nat) : Int) != 0) = true := by rw [bne, hne]; rfl
    rw [hE, e1]
    have HZ := Lib.hid hnz
    obtain ⟨va, vn, vc, rfl⟩ : ∃ a n c, v = .slice a n c := by
      rcases hv with ⟨_, a, c, rfl⟩ | ⟨_, b, o, c, rfl, _⟩
      · exact ⟨_, _, _, rfl⟩
      · exact ⟨_, _, _, rfl⟩
    generalize (((ofK t).2 : Nat) : Int) = E2 at *
    clear hE e1 hv C hbd hnz h1
    go_enter Tryz.func161, Tryz.ntmps161
    go_wp2_with fail
    refine (HOf.out).mono ?_
    rintro e w1 ⟨rfl, hb1⟩
    have HB1 := Lib.hid hb1
    clear hb1
    go_wp2_with fail
    go_ret2
    exact ⟨⟨_, rfl, fun _ => rfl, fun h => absurd h HZ.out⟩, HB1.out⟩

/-- What At answers: a value, or what is wrong. -/
noncomputable def atV (t : List Nd) (l : List Fct) (p day : Int) : Option (Option Rat) := if wrN t p ≠ 0 then some none else if day < 0 ∨ 73048 < day then some none else vlA t (fxL l day) p.toNat
noncomputable def atE (t : List Nd) (l : List Fct) (p day : Int) : Int := if wrN t p ≠ 0 then wrN t p else if day < 0 ∨ 73048 < day then 18 else vE (vlA t (fxL l day) p.toNat)
theorem sub_nd {w : World} {b o : Nat} {t : List Nd} (h : NdA w b o t) {n k : Nat} (hk : n + k ≤ t.length) : NdA w b (o + n * 5) (subT t n k) := fun j hj => by
  rw [subT_len hk] at hj
  rw [subT_get hk hj, show o + n * 5 + j * 5 = o + (n + j) * 5 by omega]
  exact h (n + j) (by omega)
set_option maxRecDepth 100000 in
set_option maxHeartbeats 2000000 in
theorem vat_any (t : List Nd) (hl : t.length ≤ 1000) (hbd : BdT t) (v : Value) (w : World) (hv : SlT w v t) (C : KndW w) (p day : Int) {B bf bc nn : Nat} {Df Dc : DataW Unit} (h : FacM w B bf bc nn Df Dc) {l : List Fct} (hr : RelV vR Df l) (hO : OkL l) :
    Calls Tryz.prog 143 #[v, .int .i64 p, .int .i64 day, .pointer (some ⟨B, 0, none⟩)] w fun e w' => e = .returned (.tuple #[.agg #[.bool (vB (atV t l p day)), .int .i64 (vN (atV t l p day)), .int .i64 (vD (atV t l p day))], .int .i64 (atE t l p day)]) ∧ Below w.heap.size w w' := by
  have hb0 := newF w (.cells #[.bool false, .int .i64 0, .int .i64 0] 223)
  have r0 : (w.alloc (.cells #[.bool false, .int .i64 0, .int .i64 0] 223)).cell? ⟨w.heap.size, 0, none⟩ = some (.bool false) := by rw [World.cell?_alloc_at _ _ _ _ rfl]; rfl
  have r1 : (w.alloc (.cells #[.bool false, .int .i64 0, .int .i64 0] 223)).cell? ⟨w.heap.size, 1, none⟩ = some (.int .i64 0) := by rw [World.cell?_alloc_at _ _ _ _ rfl]; rfl
  have r2 : (w.alloc (.cells #[.bool false, .int .i64 0, .int .i64 0] 223)).cell? ⟨w.heap.size, 2, none⟩ = some (.int .i64 0) := by rw [World.cell?_alloc_at _ _ _ _ rfl]; rfl
  have zz : ∀ i, (w.alloc (.cells #[.bool false, .int .i64 0, .int .i64 0] 223)).frozen? ⟨w.heap.size, i, none⟩ = false := fun i => World.frozen?_alloc_at _ _ _ _ rfl
  have HNm := Lib.hid (number_any t hl hbd v _ (hv.keep hb0) (C.keep hb0) p)
  have HB0 := Lib.hid hb0
  have HR := Lib.hid (And.intro r0 (And.intro r1 (And.intro r2 zz)))
  have HFa := Lib.hid (And.intro (h.keep hb0) (And.intro (C.keep hb0) (And.intro hr hO)))
  have HBd := Lib.hid hbd
  obtain ⟨va, vn, vc, rfl⟩ : ∃ a n c, v = .slice a n c := by
    rcases hv with ⟨_, a, c, rfl⟩ | ⟨_, b, o, c, rfl, _⟩
    · exact ⟨_, _, _, rfl⟩
    · exact ⟨_, _, _, rfl⟩
  clear h hr hO hv C hb0 r0 r1 r2 zz hbd
  by_cases h1 : wrN t p = 0
  · by_cases h2 : day < 0 ∨ 73048 < day
    · have e1 : atV t l p day = some none := by unfold atV; rw [if_neg (by omega), if_pos h2]
      have e2 : atE t l p day = 18 := by unfold atE; rw [if_neg (by omega), if_pos h2]
      rw [e1, e2]
      rw [h1] at HNm
      clear e1 e2 h1
      rcases h2 with h2 | h2
      · go_enter Tryz.func143, Tryz.ntmps143
        go_wp2_with fail
        refine (HNm.out).mono ?_
        rintro e w1 ⟨⟨u, rfl, _, _⟩, hb1⟩
        have HB1 := Lib.hid (onF HB0.out hb1)
        have r0 := keepF hb1 HR.out.1
        have r1 := keepF hb1 HR.out.2.1
        have r2 := keepF hb1 HR.out.2.2.1
        have z0 := (hb1.frozen (p := ⟨w.heap.size, 0, none⟩) (by simp)).trans (HR.out.2.2.2 0)
        have z1 := (hb1.frozen (p := ⟨w.heap.size, 1, none⟩) (by simp)).trans (HR.out.2.2.2 1)
        have z2 := (hb1.frozen (p := ⟨w.heap.size, 2, none⟩) (by simp)).trans (HR.out.2.2.2 2)
        clear hb1
        go_wp2_with fail
        exact bodyPost_ret (v := .tuple #[.agg #[.bool false, .int .i64 0, .int .i64 0], .int .i64 18]) (by simp [results, Tryz.results143, go_sem, r0, r1, r2]) rfl ⟨rfl, set3 HB1.out (Nat.le_refl _)⟩
      · have h3 : ¬ day < 0 := by omega
        go_enter Tryz.func143, Tryz.ntmps143
        go_wp2_with fail
        refine (HNm.out).mono ?_
        rintro e w1 ⟨⟨u, rfl, _, _⟩, hb1⟩
        have HB1 := Lib.hid (onF HB0.out hb1)
        have r0 := keepF hb1 HR.out.1
        have r1 := keepF hb1 HR.out.2.1
        have r2 := keepF hb1 HR.out.2.2.1
        have z0 := (hb1.frozen (p := ⟨w.heap.size, 0, none⟩) (by simp)).trans (HR.out.2.2.2 0)
        have z1 := (hb1.frozen (p := ⟨w.heap.size, 1, none⟩) (by simp)).trans (HR.out.2.2.2 1)
        have z2 := (hb1.frozen (p := ⟨w.heap.size, 2, none⟩) (by simp)).trans (HR.out.2.2.2 2)
        clear hb1
        go_wp2_with fail
        exact bodyPost_ret (v := .tuple #[.agg #[.bool false, .int .i64 0, .int .i64 0], .int .i64 18]) (by simp [results, Tryz.results143, go_sem, r0, r1, r2]) rfl ⟨rfl, set3 HB1.out (Nat.le_refl _)⟩
    · have d1 : ¬ day < 0 := by omega
      have d2 : ¬ 73048 < day := by omega
      have hd : I64 day := ⟨by omega, by omega⟩
      obtain ⟨k1, n, rfl, hn, hm⟩ := wrN_zero h1
      have e1 : atV t l (n : Int) day = vlA t (fxL l day) n := by unfold atV; rw [if_neg (by omega), if_neg h2, Int.toNat_natCast]
      have e2 : atE t l (n : Int) day = vE (vlA t (fxL l day) n) := by unfold atE; rw [if_neg (by omega), if_neg h2, Int.toNat_natCast]
      rw [e1, e2]
      obtain ⟨hNm, h64, _⟩ := num_at k1 hn hm
      have hbd2 := hNm.tm.bd
      have hsl := subT_len (n := szA t n) hbd2.2
      obtain ⟨s1, _, s3⟩ := sub_nm hNm (q := 0) (by omega)
      have hv0 := vl_sub (fx := fxL l day) hNm (szA t (n + 0)) 0 (by omega) (Nat.le_refl _)
      rw [Nat.add_zero] at hv0 s3
      have HWk := Lib.hid (fun (w' : World) (b o cap : Nat) (hc1 : t.length ≤ cap) (hc2 : cap ≤ 9223372036854775807) (hN : NdA w' b o t) (hb : Below (w.alloc (.cells #[.bool false, .int .i64 0, .int .i64 0] 223)).heap.size (w.alloc (.cells #[.bool false, .int .i64 0, .int .i64 0] 223)) w') =>
        worked_any (subT t n (szA t n)) (by omega) s1 (by rw [hsl]; exact s3.symm) (fun q hq e => by
          rw [hsl] at hq
          rw [subT_op hbd2.2 hq] at e
          rw [subT_get hbd2.2 hq]
          exact num_ok k1 HBd.out (by omega) e) (fun q hq e => by
          rw [hsl] at hq
          rw [subT_op hbd2.2 hq] at e
          rw [subT_get hbd2.2 hq]
          exact key_ok k1 (by omega) e) b (o + n * 5) (cap - n) (by omega) (by omega) w' (sub_nd hN hbd2.2) (HFa.out.2.1.keep hb) (HFa.out.1.keep hb) HFa.out.2.2.1 HFa.out.2.2.2 day hd)
      rw [hsl, hv0] at HWk
      rw [h1] at HNm
      generalize vB (vlA t (fxL l day) n) = vb at *
      generalize vN (vlA t (fxL l day) n) = vn' at *
      generalize vD (vlA t (fxL l day) n) = vd at *
      generalize vE (vlA t (fxL l day) n) = ve at *
      clear e1 e2 h1 h2 k1 hn hm hNm h64 hbd2 hsl s1 s3 hv0 hd
      go_enter Tryz.func143, Tryz.ntmps143
      go_wp2_with fail
      refine (HNm.out).mono ?_
      rintro e w1 ⟨⟨u, rfl, _, hu⟩, hb1⟩
      obtain ⟨n', b, o, cap, hnn, hn2, rfl, hvv, hc1, hc2, hNd⟩ := hu (by first | trivial | rfl)
      obtain rfl : n = n' := by omega
      have HW1 := Lib.hid (HWk.out w1 b o cap hc1 hc2 (hNd.keep hb1) hb1)
      have HR1 := Lib.hid (And.intro (keepF hb1 HR.out.1) (And.intro (keepF hb1 HR.out.2.1) (And.intro (keepF hb1 HR.out.2.2.1) (fun i => (hb1.frozen (p := ⟨w.heap.size, i, none⟩) (by simp)).trans (HR.out.2.2.2 i)))))
      have HB1 := Lib.hid (onF HB0.out hb1)
      clear hb1 hu hnn hn2 hvv hc1 hc2 hNd HWk
      go_wp2_with fail
      refine (HW1.out).mono ?_
      rintro e w2 ⟨rfl, hb2⟩
      have HB2 := Lib.hid (onF HB1.out hb2)
      have r0 := keepF hb2 HR1.out.1
      have r1 := keepF hb2 HR1.out.2.1
      have r2 := keepF hb2 HR1.out.2.2.1
      have z0 := (hb2.frozen (p := ⟨w.heap.size, 0, none⟩) (ltF HR1.out.1)).trans (HR1.out.2.2.2 0)
      have z1 := (hb2.frozen (p := ⟨w.heap.size, 1, none⟩) (ltF HR1.out.1)).trans (HR1.out.2.2.2 1)
      have z2 := (hb2.frozen (p := ⟨w.heap.size, 2, none⟩) (ltF HR1.out.1)).trans (HR1.out.2.2.2 2)
      clear hb2
      go_wp2_with fail
      exact bodyPost_ret (v := .tuple #[.agg #[.bool vb, .int .i64 vn', .int .i64 vd], .int .i64 ve]) (by simp [results, Tryz.results143, go_sem, r0, r1, r2]) rfl ⟨rfl, set3 HB2.out (Nat.le_refl _)⟩
  · have e1 : atV t l p day = some none := by unfold atV; rw [if_pos h1]
    have e2 : atE t l p day = wrN t p := by unfold atE; rw [if_pos h1]
    rw [e1, e2]
    have HH := Lib.hid h1
    generalize wrN t p = E at *
    have h3 : (E == 0) = false := beq_false_of_ne h1
    have h4 : (E != 0) = true := bne_iff_ne.2 h1
    clear e1 e2 h1
    go_enter Tryz.func143, Tryz.ntmps143
    go_wp2_with fail
    refine (HNm.out).mono ?_
    rintro e w1 ⟨⟨u, rfl, hu, _⟩, hb1⟩
    obtain rfl := hu HH.out
    have HB1 := Lib.hid (onF HB0.out hb1)
    have r0 := keepF hb1 HR.out.1
    have r1 := keepF hb1 HR.out.2.1
    have r2 := keepF hb1 HR.out.2.2.1
    have z0 := (hb1.frozen (p := ⟨w.heap.size, 0, none⟩) (by simp)).trans (HR.out.2.2.2 0)
    have z1 := (hb1.frozen (p := ⟨w.heap.size, 1, none⟩) (by simp)).trans (HR.out.2.2.2 1)
    have z2 := (hb1.frozen (p := ⟨w.heap.size, 2, none⟩) (by simp)).trans (HR.out.2.2.2 2)
    clear hb1 hu
    go_wp2_with fail
    exact bodyPost_ret (v := .tuple #[.agg #[.bool false, .int .i64 0, .int .i64 0], .int .i64 E]) (by simp [results, Tryz.results143, go_sem, r0, r1, r2]) rfl ⟨rfl, set3 HB1.out (Nat.le_refl _)⟩

end Go.Proofs.YtgeneoamngfomaaGreatDoor

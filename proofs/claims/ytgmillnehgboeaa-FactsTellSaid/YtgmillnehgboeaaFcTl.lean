/-
  chattellaw07.FactsTell: its walk (being tried: the loop of Tell against wrong stands; then the listings).
-/
import Derived.Test.YtgmillnehgboeaaFq
import Derived.Test.YtgmillnehgboeaaFu
import Derived.Test.YtgmillnehgboeaaFs
import Derived.Deep.RegionHeld3
import Derived.Deep.QuietTactic
namespace Go.Proofs.Ytgmillnehgboeaa
open Go.RowKit Go.Lib Go.Maps
set_option linter.unusedVariables false
set_option linter.unusedSimpArgs false

theorem below_drewN (w : World) (q : Nat) : Below w.heap.size w (w.drewN q) := ⟨rfl, rfl, rfl, Nat.le_refl _, fun _ _ => rfl⟩
set_option maxRecDepth 100000 in
set_option maxHeartbeats 8000000 in
theorem ftell_walk (w : World) (v : Value) (L : List Tol) (h : SlTol w v L) (hok : ∀ j, j < L.length → (L.getD j default).Ok) :
    Calls Try.prog 3 #[v] w fun e w' => e = .returned (.bool true) ∧ Below w.heap.size w w' := by
  have HNw := Lib.hid (fnew_any w)
  have HAw := Lib.hid (fun w' : World => awake7_any w')
  obtain ⟨va, vc, rfl⟩ : ∃ a c, v = .slice a L.length c := by
    rcases h with ⟨rfl, a, c, rfl⟩ | ⟨_, b, o, c, rfl, _⟩
    · exact ⟨a, c, rfl⟩
    · exact ⟨_, _, rfl⟩
  by_cases a1 : 60 < L.length
  · have i1 : (60 : Int) < (L.length : Int) := by omega
    clear h hok a1
    go_enter Try.func3, Try.ntmps3
    go_wp2_with fail
    refine (HNw.out).mono ?_
    rintro e w1 ⟨B, bf, bc, rfl, hm, hB, hbf, hbc, hb1⟩
    have HB1 := Lib.hid hb1
    clear hm hB hbf hbc hb1 HNw
    go_wp2_with fail
    refine (HAw.out _).mono ?_
    rintro e w2 ⟨rfl, hb2⟩
    have HB2 := Lib.hid (onF HB1.out hb2)
    clear hb2
    go_wp2_with fail
    go_ret
    exact ⟨rfl, HB2.out⟩
  have i1 : ¬ (60 : Int) < (L.length : Int) := by omega
  have HPl := Lib.hid (fun (w' : World) (hs : SlTol w' (.slice va L.length vc) L) => plain_any w' _ L hs (by omega) hok)
  have HSl := Lib.hid h
  have HOk := Lib.hid hok
  have HL := Lib.hid a1
  clear h hok a1
  go_enter Try.func3, Try.ntmps3
  go_wp2_with fail
  refine (HNw.out).mono ?_
  rintro e w1 ⟨B, bf, bc, rfl, hm, hB, hbf, hbc, hb1⟩
  have HM := Lib.hid hm
  have HS := Lib.hid (And.intro hB (And.intro hbf hbc))
  have HB1 := Lib.hid hb1
  clear hm hB hbf hbc hb1 HNw
  go_wp2_with fail
  go_loopw [4] (fun vi wx => ∃ i : Nat, i ≤ L.length ∧ vi = .int .i64 (i : Nat) ∧ FacM wx B bf bc i (mkF (L.take i)) (mkC (L.take i)) ∧ Below w.heap.size w wx) (fun vi _ => L.length - (RowKit.intOf vi).toNat)
  case atStart => exact ⟨0, Nat.zero_le _, rfl, HM.out, HB1.out⟩
  case round =>
    obtain ⟨i, hi, rfl, hm, hb⟩ := hrel
    have HMr := Lib.hid hm
    have HBr := Lib.hid hb
    clear hm hb HM HB1
    by_cases hlt : i < L.length
    · have p0 : (0 : Int) ≤ (i : Int) := by omega
      have p1 : (i : Int) < (L.length : Int) := by omega
      obtain ⟨b, o, cap, hv, hc1, hc2, hT⟩ : ∃ b o cap, Value.slice va L.length vc = .slice (some ⟨b, o, none⟩) L.length cap ∧ L.length ≤ cap ∧ cap ≤ 9223372036854775807 ∧ ∀ j, j < L.length → TolC w b (o + j * 6) (L.getD j default) := by
        rcases HSl.out with ⟨e, _⟩ | ⟨_, b, o, cap, h1, h2, h3, h4⟩
        · rw [e] at hlt; exact absurd hlt (Nat.not_lt_zero _)
        · exact ⟨b, o, cap, h1, h2, h3, h4⟩
      injection hv with hv1 _ hv3
      subst hv1 hv3
      have HTi := Lib.hid (hT i hlt)
      have HTl := Lib.hid (tell_any wr.drew (HMr.out.keep (Below.drew (Below.refl _ _))) (by have := HL.out; unfold maxLen; omega) (L.getD i default) (HOk.out i hlt))
      have HWr := Lib.hid (fun w' => wrong_any (L.getD i default) (HOk.out i hlt) w')
      have HBd := Lib.hid (Below.drew HBr.out)
      obtain ⟨k0, k1, k2, k3, k4, k5⟩ := (hT i hlt).keep HBr.out
      have HLt := Lib.hid hlt
      have HSn := Lib.hid (take_getD hlt)
      unfold tolV at HTl HWr
      generalize L.getD i default = t at *
      obtain ⟨tc, tk, td, tx, ty, tp⟩ := t
      dsimp only at k0 k1 k2 k3 k4 k5 HTl HWr
      clear hlt hT
      go_wp2_with fail
      go_region_held3 (fun w' => w'.cell? ⟨b, o + i * 6, none⟩ = some (.bool tc) ∧ w'.cell? ⟨b, o + i * 6 + 1, none⟩ = some (.int .i64 tk) ∧ w'.cell? ⟨b, o + i * 6 + 2, none⟩ = some (.int .i64 td) ∧ w'.cell? ⟨b, o + i * 6 + 3, none⟩ = some (.int .i64 tx) ∧ w'.cell? ⟨b, o + i * 6 + 4, none⟩ = some (.int .i64 ty) ∧ w'.cell? ⟨b, o + i * 6 + 5, none⟩ = some (.int .i64 tp)) (first | (with_reducible exact ⟨k0, k1, k2, k3, k4, k5⟩) | go_keep)
        (first
        | (go_at_call 11; (with_reducible refine HTl.out.mono ?_); rintro e w2 ⟨rfl, row, hm, hg, hrow⟩; have HM2 := Lib.hid hm; have HB2 := Lib.hid (HBd.out.grown hg HBd.out.size (fun j hj => by rcases hrow with h | h <;> (rw [h] at hj; cases hj); exact HS.out.2.1; exact HS.out.2.2)); clear hm hg hrow k0 k1 k2 k3 k4 k5; obtain ⟨k0, k1, k2, k3, k4, k5⟩ := HTi.out.keep HB2.out)
        | (go_at_call 12; (with_reducible refine (HWr.out _).mono ?_); rintro e w3 ⟨rfl, hb3⟩; have HM3 := Lib.hid (HM2.out.keep hb3); have HB3 := Lib.hid (onF HB2.out hb3); clear hb3 k0 k1 k2 k3 k4 k5; obtain ⟨k0, k1, k2, k3, k4, k5⟩ := HTi.out.keep HB3.out))
      clear k0 k1 k2 k3 k4 k5 HTl HWr
      go_wp2_with fail
      go_roundw
      case rel => exact ⟨i + 1, HLt.out, by go_num, by rw [HSn.out, mkF_snoc, mkC_snoc]; exact HM3.out, HB3.out⟩
      case measure => have := HLt.out; simp [RowKit.intOf]; omega
    · have hie : i = L.length := by omega
      subst hie
      rw [List.take_length] at HMr
      have p1 : ¬ (L.length : Int) < (L.length : Int) := by omega
      have HPw := Lib.hid (HPl.out wr (HSl.out.keep HBr.out))
      clear HPl hi
      go_wp2_with fail
      refine HPw.out.mono ?_
      rintro e w2 ⟨va2, vb2, rfl, hsa, hsb, hb2⟩
      have HSa := Lib.hid hsa
      have HSb := Lib.hid hsb
      have HM2 := Lib.hid (HMr.out.keep hb2)
      have HB2 := Lib.hid (onF HBr.out hb2)
      have HLf := Lib.hid (listedv_r HM2.out (by have := HM2.out.hf.size_le; have := HL.out; omega))
      clear hsa hsb hb2 HPw
      go_wp2_with fail
      refine HLf.out.mono ?_
      rintro e w3 ⟨vf, mf, psf, rfl, hs, hp, hall, ho, hb3⟩
      have hmf := listed_F L HOk.out hs hp hall
      subst hmf
      have HOf := Lib.hid ho
      have HM3 := Lib.hid (HM2.out.keep hb3)
      have HB3 := Lib.hid (onF HB2.out hb3)
      have HSa3 := Lib.hid (HSa.out.keep hb3)
      have HSb3 := Lib.hid (HSb.out.keep hb3)
      have HLc := Lib.hid (listedv_i HM3.out (by have := HM3.out.hc.size_le; have := HL.out; omega))
      obtain ⟨fa, fn, fc, hfn, rfl⟩ := ho.slice'
      have HFn := Lib.hid hfn
      clear hs hp hall ho hb3 HLf HM2 HB2 HSa HSb hfn
      go_wp2_with fail
      refine HLc.out.mono ?_
      rintro e w4 ⟨vg, mc, psc, rfl, hs, hp, hall, ho, hb4⟩
      have hmc := listed_C L HOk.out hs hp hall
      subst hmc
      have HOc := Lib.hid ho
      have HOf4 := Lib.hid (HOf.out.grown hb4)
      have HB4 := Lib.hid (onF HB3.out hb4)
      have HSa4 := Lib.hid (HSa3.out.keep hb4)
      have HSb4 := Lib.hid (HSb3.out.keep hb4)
      obtain ⟨ga, gn, gc, hgn, rfl⟩ := ho.slice'
      have HGn := Lib.hid hgn
      clear hs hp hall ho hb4 HLc HM3 HB3 HSa3 HSb3 hgn HOf
      obtain ⟨xa, xc, rfl⟩ := HSa4.out.slice
      obtain ⟨ya, yc, rfl⟩ := HSb4.out.slice
      obtain rfl := HFn.out
      obtain rfl := HGn.out
      have hRf := Lib.hid (OwnV.row (E := rtL) (k := 4) (fun _ => rfl) HOf4.out)
      have hRc := Lib.hid (OwnV.row (E := chL) (k := 3) (fun _ => rfl) HOc.out)
      have hlen := (rel_made L L.length (Nat.le_refl _) HOk.out).2.2
      rw [List.take_length] at hlen
      have hl1 : (plF L).length ≤ 60 := by have := HL.out; omega
      have hl2 : (plC L).length ≤ 60 := by have := HL.out; omega
      clear hlen HSl HOk HL HOf4 HOc HFn HGn HMr
      generalize plF L = F at *
      generalize plC L = C at *
      go_wp2_with fail
      go_loopw [9] (fun vi wx => ∃ j : Nat, j ≤ F.length ∧ vi = .int .i64 (j : Nat) ∧ ∃ q, wx = w4.drewN q) (fun vi _ => F.length - (RowKit.intOf vi).toNat)
      case atStart => exact ⟨0, Nat.zero_le _, rfl, 0, rfl⟩
      case round =>
        obtain ⟨j, hj, rfl, q, hwx⟩ := hrel
        have HSaq : Hid (SlFct wr (.slice xa F.length xc) F) := Lib.hid (by rw [hwx]; exact HSa4.out.keep (below_drewN _ _))
        have HRfq : Hid (RowV rtL 4 wr (.slice fa F.length fc) F) := Lib.hid (by rw [hwx]; exact hRf.out.keep (below_drewN _ _))
        have HQ := Lib.hid hwx
        clear hwx
        by_cases hlt : j < F.length
        · have q0 : (0 : Int) ≤ (j : Int) := by omega
          have q1 : (j : Int) < (F.length : Int) := by omega
          obtain ⟨bx, ox, cx, hv, hx1, hx2, hTx⟩ : ∃ b o cap, Value.slice xa F.length xc = .slice (some ⟨b, o, none⟩) F.length cap ∧ F.length ≤ cap ∧ cap ≤ 9223372036854775807 ∧ FctA wr b o F := by
            rcases HSaq.out with ⟨e, _⟩ | ⟨_, b, o, cap, h1, h2, h3, h4⟩
            · rw [e] at hlt; exact absurd hlt (Nat.not_lt_zero _)
            · exact ⟨b, o, cap, h1, h2, h3, h4⟩
          injection hv with hv1 _ hv3
          subst hv1 hv3
          obtain ⟨g, cf, hv, hf1, hf2, hTf⟩ : ∃ g cap, Value.slice fa F.length fc = .slice (some ⟨g, 0, none⟩) F.length cap ∧ F.length ≤ cap ∧ cap ≤ 9223372036854775807 ∧ ∀ j, j < F.length → ∀ i c, i < 4 → (rtL (F.getD j default))[i]? = some c → wr.cell? ⟨g, j * 4 + i, none⟩ = some c := by
            rcases HRfq.out with ⟨e, _⟩ | ⟨_, g, cap, h1, h2, h3, h4⟩
            · rw [e] at hlt; exact absurd hlt (Nat.not_lt_zero _)
            · exact ⟨g, cap, h1, h2, h3, h4⟩
          injection hv with hv1 _ hv3
          subst hv1 hv3
          obtain ⟨k0, k1, k2, k3, k4⟩ := hTx j hlt
          have m0 : wr.cell? ⟨g, j * 4, none⟩ = some (.int .i64 (F.getD j default).k) := hTf j hlt 0 _ (by omega) rfl
          have m1 : wr.cell? ⟨g, j * 4 + 1, none⟩ = some (.int .i64 (F.getD j default).d) := hTf j hlt 1 _ (by omega) rfl
          have m2 : wr.cell? ⟨g, j * 4 + 2, none⟩ = some (.int .i64 (F.getD j default).x) := hTf j hlt 2 _ (by omega) rfl
          have m3 : wr.cell? ⟨g, j * 4 + 3, none⟩ = some (.int .i64 (F.getD j default).y) := hTf j hlt 3 _ (by omega) rfl
          have HLt := Lib.hid hlt
          generalize F.getD j default = y at *
          obtain ⟨yk, yd, yx, yy, yp⟩ := y
          dsimp only at k0 k1 k2 k3 k4 m0 m1 m2 m3
          clear hTx hTf hlt HSa4 hRf HSb4 hRc HSaq HRfq
          go_wp2_with fail
          go_quiet (fail)
          go_wp2_with fail
          go_roundw
          case rel => exact ⟨j + 1, HLt.out, by go_num, q + nq, by rw [HQ.out, World.drewN_drewN]⟩
          case measure => have := HLt.out; simp [RowKit.intOf]; omega
        · have hje : j = F.length := by omega
          subst hje
          have q1 : ¬ (F.length : Int) < (F.length : Int) := by omega
          have HSbq : Hid (SlFct wr (.slice ya C.length yc) C) := Lib.hid (by rw [HQ.out]; exact HSb4.out.keep (below_drewN _ _))
          have HRcq : Hid (RowV chL 3 wr (.slice ga C.length gc) C) := Lib.hid (by rw [HQ.out]; exact hRc.out.keep (below_drewN _ _))
          have HBq : Hid (Below w.heap.size w wr) := Lib.hid (by rw [HQ.out]; exact onF HB4.out (below_drewN _ _))
          clear HSa4 hRf HSb4 hRc HSaq HRfq HQ HB4 hlt hj
          go_wp2_with fail
          generalize wr = w5 at *
          go_loopw [10] (fun vi wx => ∃ j : Nat, j ≤ C.length ∧ vi = .int .i64 (j : Nat) ∧ ∃ q, wx = w5.drewN q) (fun vi _ => C.length - (RowKit.intOf vi).toNat)
          case atStart => exact ⟨0, Nat.zero_le _, rfl, 0, rfl⟩
          case round =>
            obtain ⟨j, hj, rfl, q', hwx⟩ := hrel
            have HSd : Hid (SlFct wr (.slice ya C.length yc) C) := Lib.hid (by rw [hwx]; exact HSbq.out.keep (below_drewN _ _))
            have HRd : Hid (RowV chL 3 wr (.slice ga C.length gc) C) := Lib.hid (by rw [hwx]; exact HRcq.out.keep (below_drewN _ _))
            have HQ := Lib.hid hwx
            clear hwx
            by_cases hlt : j < C.length
            · have q0 : (0 : Int) ≤ (j : Int) := by omega
              have q2 : (j : Int) < (C.length : Int) := by omega
              obtain ⟨bx, ox, cx, hv, hx1, hx2, hTx⟩ : ∃ b o cap, Value.slice ya C.length yc = .slice (some ⟨b, o, none⟩) C.length cap ∧ C.length ≤ cap ∧ cap ≤ 9223372036854775807 ∧ FctA wr b o C := by
                rcases HSd.out with ⟨e, _⟩ | ⟨_, b, o, cap, h1, h2, h3, h4⟩
                · rw [e] at hlt; exact absurd hlt (Nat.not_lt_zero _)
                · exact ⟨b, o, cap, h1, h2, h3, h4⟩
              injection hv with hv1 _ hv3
              subst hv1 hv3
              obtain ⟨g, cf, hv, hf1, hf2, hTf⟩ : ∃ g cap, Value.slice ga C.length gc = .slice (some ⟨g, 0, none⟩) C.length cap ∧ C.length ≤ cap ∧ cap ≤ 9223372036854775807 ∧ ∀ j, j < C.length → ∀ i c, i < 3 → (chL (C.getD j default))[i]? = some c → wr.cell? ⟨g, j * 3 + i, none⟩ = some c := by
                rcases HRd.out with ⟨e, _⟩ | ⟨_, g, cap, h1, h2, h3, h4⟩
                · rw [e] at hlt; exact absurd hlt (Nat.not_lt_zero _)
                · exact ⟨g, cap, h1, h2, h3, h4⟩
              injection hv with hv1 _ hv3
              subst hv1 hv3
              obtain ⟨k0, k1, k2, k3, k4⟩ := hTx j hlt
              have m0 : wr.cell? ⟨g, j * 3, none⟩ = some (.int .i64 (C.getD j default).k) := hTf j hlt 0 _ (by omega) rfl
              have m1 : wr.cell? ⟨g, j * 3 + 1, none⟩ = some (.int .i64 (C.getD j default).d) := hTf j hlt 1 _ (by omega) rfl
              have m2 : wr.cell? ⟨g, j * 3 + 2, none⟩ = some (.int .i64 (C.getD j default).p) := hTf j hlt 2 _ (by omega) rfl
              have HLt := Lib.hid hlt
              generalize C.getD j default = y at *
              obtain ⟨yk, yd, yx, yy, yp⟩ := y
              dsimp only at k0 k1 k2 k3 k4 m0 m1 m2
              clear hTx hTf hlt HSbq HRcq HSd HRd
              go_wp2_with fail
              go_quiet (fail)
              go_wp2_with fail
              go_roundw
              case rel => exact ⟨j + 1, HLt.out, by go_num, q' + nq, by rw [HQ.out, World.drewN_drewN]⟩
              case measure => have := HLt.out; simp [RowKit.intOf]; omega
            · have hje : j = C.length := by omega
              subst hje
              have q2 : ¬ (C.length : Int) < (C.length : Int) := by omega
              have HBz : Hid (Below w.heap.size w wr) := Lib.hid (by rw [HQ.out]; exact onF HBq.out (below_drewN _ _))
              clear HSbq HRcq HSd HRd HQ HBq hlt hj
              go_wp2_with fail
              refine (HAw.out _).mono ?_
              rintro e w7 ⟨rfl, hb7⟩
              have HBe := Lib.hid (onF HBz.out hb7)
              clear hb7
              go_wp2_with fail
              go_ret
              exact ⟨rfl, HBe.out⟩

end Go.Proofs.Ytgmillnehgboeaa

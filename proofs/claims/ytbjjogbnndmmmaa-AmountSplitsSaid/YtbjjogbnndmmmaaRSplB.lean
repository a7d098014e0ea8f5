/-
  chattelref01's Split: its walk.
-/
import Derived.Test.YtbjjogbnndmmmaaRSplA
import Derived.Test.YtbjjogbnndmmmaaAwake
import Derived.Deep.DeepCutAuto
import Derived.Deep.Light
import Derived.Deep.RegionHeld3
namespace Go.Proofs.Ytbjjogbnndmmmaa
open Go.RowKit Go.Sort
set_option linter.unusedVariables false

theorem Try.infoBig : (Try.prog.info? 30).map (fun i => (i.zero, i.size, i.bytes)) = some (some (.agg #[.bool false, .slice none 0 0]), 2, 32) := by kernel_rfl

theorem parts_anyL (x y : Int) (v v' : Value) (w : World) (h : BigV w v x) (h' : BigV w v' y) (hx : 0 ≤ x) (hy : 0 < y) (lx : x.natAbs < 2 ^ 1000) (ly : y.natAbs < 2 ^ 1000) :
    Calls Try.prog 16 #[v, v'] w fun e w' => ∃ s a n c s' a' n' c', e = .returned (.tuple #[.agg #[.bool s, .slice a n c], .agg #[.bool s', .slice a' n' c']]) ∧ BigV w' (.agg #[.bool s, .slice a n c]) (x / y) ∧ BigV w' (.agg #[.bool s', .slice a' n' c']) (x % y) ∧ Below w.heap.size w w' ∧ LocR w.heap.size a' := by
  obtain ⟨a, c, rfl, g⟩ := h.open
  obtain ⟨b, d, rfl, g'⟩ := h'.open
  refine (parts_mainL x.natAbs y.natAbs a b c d _ _ w g.1 g'.1 rfl rfl (by omega) (bitsN_len _ _ lx) (bitsN_len _ _ ly) _ _).mono ?_
  rintro e w' ⟨v, v', rfl, h1, h2, h3, a', n', c', rfl, h4⟩
  obtain ⟨e1, e2⟩ := nat_parts hx hy
  rw [e1] at h1
  rw [e2] at h2
  obtain ⟨s, a, n, c, rfl, h1'⟩ := h1.shape
  exact ⟨s, a, n, c, _, a', n', c', rfl, h1', h2, h3, h4⟩

set_option maxHeartbeats 8000000 in
set_option maxRecDepth 100000 in
theorem rsplit_any (T : Int) (l : List Int) (b o cap : Nat) (d : Array Int) (w : World) (hb : b < w.heap.size) (hr : Row w b o l) (hi : InI l) (hnn : NonNeg l) (h0 : 0 < l.length) (h64 : l.length ≤ 64) (hS : 0 < sumL l) (hS1 : sumL l ≤ 9223372036854775807)
    (hT : 0 ≤ T) (hT1 : T ≤ 9223372036854775807) (hd : Ordered T l d) :
    Calls Try.prog 8 #[.int .i64 T, .slice (some ⟨b, o, none⟩) l.length cap] w fun e w' => (∃ g cap, e = .returned (.slice (some ⟨g, 0, none⟩) l.length cap) ∧ w.heap.size ≤ g ∧ ∀ t, t < l.length → w'.cell? ⟨g, t, none⟩ = some (.int .i64 (partF T l d t)) ∧ w'.frozen? ⟨g, t, none⟩ = false) ∧ Below w.heap.size w w' := by
  obtain ⟨i0, hi0, hz0, hz1, hz2⟩ := info_parts Try.infoI
  obtain ⟨j1, hi1, hy0, hy1, hy2⟩ := info_parts Try.infoBig
  have HSum := Lib.hid (rsum_any l (some ⟨b, o, none⟩) cap w (Or.inr ⟨b, o, rfl, hb, hr⟩) hi (by omega))
  obtain ⟨S, hSe⟩ : ∃ S, S = sumL l := ⟨_, rfl⟩
  obtain ⟨n, hn⟩ : ∃ n, n = l.length := ⟨_, rfl⟩
  have HSe := Lib.hid hSe
  have HN := Lib.hid hn
  rw [← hSe] at hS hS1 HSum
  rw [← hn] at HSum h0 h64 ⊢
  have HR := Lib.hid hr
  have HI := Lib.hid hi
  have HNn := Lib.hid hnn
  have HD := Lib.hid hd
  have HT1 := Lib.hid hT1
  have HB := Lib.hid hb
  have HOf1 := Lib.hid (fun w => of_any T w (by omega) hT1)
  clear hr hi hnn hd hSe hn hb
  go_enter Try.func8, Try.ntmps8
  go_wp2_with fail
  refine HSum.out.mono ?_
  rintro e w1 ⟨⟨v1, rfl, hv1⟩, hb1⟩
  obtain ⟨sg, sa, sn, sc, rfl, hv1'⟩ := hv1.shape
  have HV1 := Lib.hid hv1'
  have HB1 := Lib.hid hb1
  clear hv1 hv1' hb1
  go_wp2_with fail
  have hs2 : w1.heap.size < (w1.alloc (.cells #[.bool sg, .slice sa sn sc] 30)).heap.size := by simp
  have hk0 : (w1.alloc (.cells #[.bool sg, .slice sa sn sc] 30)).cell? ⟨w1.heap.size, 0, none⟩ = some (.bool sg) := new_at (c := #[.bool sg, .slice sa sn sc]) rfl
  have hk1 : (w1.alloc (.cells #[.bool sg, .slice sa sn sc] 30)).cell? ⟨w1.heap.size, 1, none⟩ = some (.slice sa sn sc) := new_at (c := #[.bool sg, .slice sa sn sc]) rfl
  have hkv := HV1.out.keep (Below.alloc (Below.refl w1.heap.size w1) (Nat.le_refl _) (.cells #[.bool sg, .slice sa sn sc] 30))
  have hkb := HB1.out.trans (Below.alloc (Below.refl w1.heap.size w1) (Nat.le_refl _) (.cells #[.bool sg, .slice sa sn sc] 30) |>.mono HB1.out.size)
  generalize w1.alloc (.cells #[.bool sg, .slice sa sn sc] 30) = w2 at *
  obtain ⟨B2, hB2⟩ : ∃ B2, B2 = w1.heap.size := ⟨_, rfl⟩
  rw [← hB2] at hs2 hk0 hk1 ⊢
  have HK0 := Lib.hid hk0
  have HK1 := Lib.hid hk1
  have HKV := Lib.hid hkv
  have HKB := Lib.hid hkb
  clear hB2 hk0 hk1 hkv hkb HV1 HB1 w1
  go_loopw [6, 7, 8, 9] (fun vo vr vl vi wx => ∃ (k : Nat) (L : Int), k ≤ n ∧ vi = .int .i64 k ∧ vl = .int .i64 L ∧ L = T - sumF (qF T S l) k ∧ RI w2 wx vo vr k k (qF T S l) (rF T S l)) (fun _ _ _ vi _ => n - (intOf vi).toNat)
  case atStart => exact ⟨0, T, Nat.zero_le _, rfl, rfl, by simp [sumF], RI.start _ _ _⟩
  case round =>
    obtain ⟨k, L, hk, rfl, rfl, hL, hri⟩ := hrel
    by_cases hlt : k < n
    · obtain ⟨x, hx⟩ : ∃ x, x = l.getD k 0 := ⟨_, rfl⟩
      have hcx : wr.cell? ⟨b, o + k, none⟩ = some (.int .i64 x) := by rw [hri.bel.cell (p := ⟨b, o + k, none⟩) (Nat.lt_of_lt_of_le HB.out HKB.out.size), HKB.out.cell (p := ⟨b, o + k, none⟩) HB.out, hx]; exact HR.out k (by have := HN.out; omega)
      have hc0 : wr.cell? ⟨B2, 0, none⟩ = some (.bool sg) := (hri.bel.cell (p := ⟨B2, 0, none⟩) hs2).trans HK0.out
      have hc1 : wr.cell? ⟨B2, 1, none⟩ = some (.slice sa sn sc) := (hri.bel.cell (p := ⟨B2, 1, none⟩) hs2).trans HK1.out
      have hBw : B2 < wr.heap.size := Nat.lt_of_lt_of_le hs2 hri.bel.size
      have hx0 : 0 ≤ x := by rw [hx]; exact HNn.out k
      have hx1 : x ≤ 9223372036854775807 := by rw [hx]; exact (HI.out k).2
      have HX := Lib.hid hx
      have HL := Lib.hid hL
      have HRI := Lib.hid hri
      have HOf2 := Lib.hid (fun w => of_any x w (by omega) hx1)
      have HMul := Lib.hid (fun v v' w (h : BigV w v T) (h' : BigV w v' x) => rmul_any T x v v' w h h' (int_lim (by omega) HT1.out) (int_lim (by omega) hx1))
      have HPar := Lib.hid (fun v v' w (h : BigV w v (T * x)) (h' : BigV w v' S) => parts_anyL (T * x) S v v' w h h' (Int.mul_nonneg hT hx0) hS (by
        have h1 := mul_bits (a := T) (b := x) (k := 400) (pow_big 400 (by decide) (by omega)) (pow_big 400 (by decide) (by omega))
        exact lim_up (k := 400 + 400) (m := 1000) (by decide) h1) (int_lim (by omega) hS1))
      have KS := Lib.hid (HKV.out.keep hri.bel)
      have i1 : (k : Int) < (n : Int) := by omega
      clear hx hL hri
      go_upto_region 8 with (fail)
      go_cut [10, 11] (fun t u wx => RCut wr wx t u (T * x / S) (T * x % S))
      case first => as_aux_lemma =>
        rename_i Jm Km hRm hKm
        have HRm := Lib.hid hRm
        have HKm := Lib.hid hKm
        clear hRm hKm
        have L := Lib.hid (Below.refl wr.heap.size wr)
        have G := Lib.hid (Below.refl wr.heap.size wr)
        have HBL := Lib.hid hBw
        have HXL : Hid (b < wr.heap.size) := Lib.hid (Nat.lt_of_lt_of_le HB.out (Nat.le_trans HKB.out.size HRI.out.bel.size))
        have d0 := hc0
        have d1 := hc1
        have dx := hcx
        have hXw := HXL.out
        go_region_held3 (fun w' => w'.cell? ⟨B2, 0, none⟩ = some (.bool sg) ∧ w'.cell? ⟨B2, 1, none⟩ = some (.slice sa sn sc) ∧ w'.cell? ⟨b, o + k, none⟩ = some (.int .i64 x))
          (first | (with_reducible exact ⟨d0, d1, dx⟩) | (refine ⟨?_, ?_, ?_⟩ <;> (repeat (first | (with_reducible exact d0) | (with_reducible exact d1) | (with_reducible exact dx) | (with_reducible refine alloc_far ?_) | (with_reducible refine drew_far ?_) | (with_reducible refine set_far (by omega) ?_)))))
          (first | (go_at_call 15; (with_reducible refine (HOf1.out _).mono ?_); rintro e w1 ⟨⟨v1, rfl, hv1⟩, hb1⟩; (try replace hb1 := undrewB hb1); have hbl := step_far L.out (by (repeat (first | (with_reducible exact Below.refl _ _) | (with_reducible refine below_alloc' ?_) | (with_reducible refine Below.drew ?_)))) hb1; (try replace VB := Lib.hid (VB.out.keep hbl)); (try replace VM := Lib.hid (VM.out.keep hbl)); replace KS := Lib.hid (KS.out.keep hbl); (try have hql := Nat.ne_of_lt Q1.out.qb.lt); (try replace Q1 := Lib.hid (Q1.out.keep hbl)); (try replace Q2 := Lib.hid (Q2.out.keep hbl)); (first | (have q12 := QW.of_alloc2 G.out hb1; have Q1 := Lib.hid q12.1; have Q2 := Lib.hid q12.2; clear q12) | (have q1 := QW.of_alloc G.out hb1; (first | (have _t := Q1; have Q2 := Lib.hid q1; have hqn := hql; have hqm := hql.symm; clear _t) | have Q1 := Lib.hid q1); clear q1) | skip); replace G := Lib.hid (G.out.trans (hbl.mono G.out.size)); replace d0 := (hbl.cell (p := ⟨B2, 0, none⟩) HBL.out).trans d0; replace d1 := (hbl.cell (p := ⟨B2, 1, none⟩) HBL.out).trans d1; replace dx := (hbl.cell (p := ⟨b, o + k, none⟩) HXL.out).trans dx; have hB3 := Nat.lt_of_lt_of_le HBL.out hbl.size; have hX3 := Nat.lt_of_lt_of_le HXL.out hbl.size; replace HBL := Lib.hid hB3; replace HXL := Lib.hid hX3; replace L := Lib.hid (Below.refl w1.heap.size w1); have VA := Lib.hid hv1; clear hb1 hbl hv1) | (go_at_call 15; (with_reducible refine (HOf2.out _).mono ?_); rintro e w1 ⟨⟨v2, rfl, hv1⟩, hb1⟩; (try replace hb1 := undrewB hb1); have hbl := step_far L.out (by (repeat (first | (with_reducible exact Below.refl _ _) | (with_reducible refine below_alloc' ?_) | (with_reducible refine Below.drew ?_)))) hb1; (try replace VA := Lib.hid (VA.out.keep hbl)); (try replace VM := Lib.hid (VM.out.keep hbl)); replace KS := Lib.hid (KS.out.keep hbl); (try have hql := Nat.ne_of_lt Q1.out.qb.lt); (try replace Q1 := Lib.hid (Q1.out.keep hbl)); (try replace Q2 := Lib.hid (Q2.out.keep hbl)); (first | (have q12 := QW.of_alloc2 G.out hb1; have Q1 := Lib.hid q12.1; have Q2 := Lib.hid q12.2; clear q12) | (have q1 := QW.of_alloc G.out hb1; (first | (have _t := Q1; have Q2 := Lib.hid q1; have hqn := hql; have hqm := hql.symm; clear _t) | have Q1 := Lib.hid q1); clear q1) | skip); replace G := Lib.hid (G.out.trans (hbl.mono G.out.size)); replace d0 := (hbl.cell (p := ⟨B2, 0, none⟩) HBL.out).trans d0; replace d1 := (hbl.cell (p := ⟨B2, 1, none⟩) HBL.out).trans d1; replace dx := (hbl.cell (p := ⟨b, o + k, none⟩) HXL.out).trans dx; have hB3 := Nat.lt_of_lt_of_le HBL.out hbl.size; have hX3 := Nat.lt_of_lt_of_le HXL.out hbl.size; replace HBL := Lib.hid hB3; replace HXL := Lib.hid hX3; replace L := Lib.hid (Below.refl w1.heap.size w1); have VB := Lib.hid hv1; clear hb1 hbl hv1) | (go_at_call 17; (with_reducible refine (HMul.out _ _ _ (VA.out.keep (by (repeat (first | (with_reducible exact Below.refl _ _) | (with_reducible refine below_alloc' ?_) | (with_reducible refine Below.drew ?_))))) (VB.out.keep (by (repeat (first | (with_reducible exact Below.refl _ _) | (with_reducible refine below_alloc' ?_) | (with_reducible refine Below.drew ?_)))))).mono ?_); rintro e w1 ⟨⟨v3, rfl, hv1⟩, hb1⟩; (try replace hb1 := undrewB hb1); have hbl := step_far L.out (by (repeat (first | (with_reducible exact Below.refl _ _) | (with_reducible refine below_alloc' ?_) | (with_reducible refine Below.drew ?_)))) hb1; (try replace VA := Lib.hid (VA.out.keep hbl)); (try replace VB := Lib.hid (VB.out.keep hbl)); replace KS := Lib.hid (KS.out.keep hbl); (try have hql := Nat.ne_of_lt Q1.out.qb.lt); (try replace Q1 := Lib.hid (Q1.out.keep hbl)); (try replace Q2 := Lib.hid (Q2.out.keep hbl)); (first | (have q12 := QW.of_alloc2 G.out hb1; have Q1 := Lib.hid q12.1; have Q2 := Lib.hid q12.2; clear q12) | (have q1 := QW.of_alloc G.out hb1; (first | (have _t := Q1; have Q2 := Lib.hid q1; have hqn := hql; have hqm := hql.symm; clear _t) | have Q1 := Lib.hid q1); clear q1) | skip); replace G := Lib.hid (G.out.trans (hbl.mono G.out.size)); replace d0 := (hbl.cell (p := ⟨B2, 0, none⟩) HBL.out).trans d0; replace d1 := (hbl.cell (p := ⟨B2, 1, none⟩) HBL.out).trans d1; replace dx := (hbl.cell (p := ⟨b, o + k, none⟩) HXL.out).trans dx; have hB3 := Nat.lt_of_lt_of_le HBL.out hbl.size; have hX3 := Nat.lt_of_lt_of_le HXL.out hbl.size; replace HBL := Lib.hid hB3; replace HXL := Lib.hid hX3; replace L := Lib.hid (Below.refl w1.heap.size w1); have VM := Lib.hid hv1; clear hb1 hbl hv1) | (go_at_call 16; (with_reducible refine (HPar.out _ _ _ (VM.out.keep (by (repeat (first | (with_reducible exact Below.refl _ _) | (with_reducible refine below_alloc' ?_) | (with_reducible refine Below.drew ?_))))) (KS.out.keep (by (repeat (first | (with_reducible exact Below.refl _ _) | (with_reducible refine below_alloc' ?_) | (with_reducible refine Below.drew ?_)))))).mono ?_); rintro e w1 ⟨qs, qa, qn, qc, rs, ra, rn, rc, rfl, hv1, hv2, hb1, hloc⟩; (try replace hb1 := undrewB hb1); have HLc := Lib.hid (loc_far G.out L.out (by (repeat (first | (with_reducible exact Below.refl _ _) | (with_reducible refine below_alloc' ?_) | (with_reducible refine Below.drew ?_)))) hb1 hloc); have VR := Lib.hid hv2; clear hloc; have hbl := step_far L.out (by (repeat (first | (with_reducible exact Below.refl _ _) | (with_reducible refine below_alloc' ?_) | (with_reducible refine Below.drew ?_)))) hb1; (try replace VA := Lib.hid (VA.out.keep hbl)); (try replace VB := Lib.hid (VB.out.keep hbl)); (try replace VM := Lib.hid (VM.out.keep hbl)); replace KS := Lib.hid (KS.out.keep hbl); (try have hql := Nat.ne_of_lt Q1.out.qb.lt); (try replace Q1 := Lib.hid (Q1.out.keep hbl)); (try replace Q2 := Lib.hid (Q2.out.keep hbl)); (first | (have q12 := QW.of_alloc2 G.out hb1; have Q1 := Lib.hid q12.1; have Q2 := Lib.hid q12.2; clear q12) | (have q1 := QW.of_alloc G.out hb1; (first | (have _t := Q1; have Q2 := Lib.hid q1; have hqn := hql; have hqm := hql.symm; clear _t) | have Q1 := Lib.hid q1); clear q1) | skip); replace G := Lib.hid (G.out.trans (hbl.mono G.out.size)); replace d0 := (hbl.cell (p := ⟨B2, 0, none⟩) HBL.out).trans d0; replace d1 := (hbl.cell (p := ⟨B2, 1, none⟩) HBL.out).trans d1; replace dx := (hbl.cell (p := ⟨b, o + k, none⟩) HXL.out).trans dx; have hB3 := Nat.lt_of_lt_of_le HBL.out hbl.size; have hX3 := Nat.lt_of_lt_of_le HXL.out hbl.size; replace HBL := Lib.hid hB3; replace HXL := Lib.hid hX3; replace L := Lib.hid (Below.refl w1.heap.size w1); have VQ := Lib.hid hv1; clear hb1 hbl hv1 hv2; (try (have q10 := Q1.out.qb.c0; have q11 := Q1.out.qb.c1; have q12 := Q1.out.qb.f0; have q13 := Q1.out.qb.f1; have q14 := Q1.out.qb.lt; have q15 := Nat.ne_of_lt Q1.out.qb.lt; have q16 := q15.symm)); (try (have q20 := Q2.out.qb.c0; have q21 := Q2.out.qb.c1; have q22 := Q2.out.qb.f0; have q23 := Q2.out.qb.f1; have q24 := Q2.out.qb.lt; have q25 := Nat.ne_of_lt Q2.out.qb.lt; have q26 := q25.symm))))
        all_goals (refine HKm.out _ _ (Met.intro (HRm.out _ _ ?_)))
        all_goals ((repeat apply Exists.intro); (refine ⟨?_, rfl⟩))
        all_goals (first | (with_reducible exact leaf1 G VQ VR HLc) | (with_reducible exact leaf2 G VQ VR HLc) | (with_reducible exact leaf3 G VQ VR HLc Q1) | (with_reducible exact leaf4 G VQ VR HLc Q1) | (with_reducible exact leaf5 G VQ VR HLc Q1 Q2 hqn) | (with_reducible exact leaf5 G VQ VR HLc Q2 Q1 hqm) | (with_reducible exact leaf5 G VQ VR HLc Q1 Q2 (Nat.ne_of_lt (Nat.lt_succ_self _))) | (with_reducible exact leaf5 G VQ VR HLc Q2 Q1 (Nat.ne_of_lt (Nat.lt_succ_self _)).symm) | (with_reducible exact leaf6 G VQ VR HLc Q1 Q2 hqn) | (with_reducible exact leaf6 G VQ VR HLc Q2 Q1 hqm) | (with_reducible exact leaf6 G VQ VR HLc Q1 Q2 (Nat.ne_of_lt (Nat.lt_succ_self _))) | (with_reducible exact leaf6 G VQ VR HLc Q2 Q1 (Nat.ne_of_lt (Nat.lt_succ_self _)).symm) | skip)
      case rest =>
        obtain ⟨Q, Q', s, s', a, a', m, m', c, c', rfl, rfl, q0, q1, r0, r1, hq, hr', hl, hbl, hQ1, hQ2⟩ := hcut
        obtain ⟨q, hqe⟩ : ∃ q, q = T * x / S := ⟨_, rfl⟩
        obtain ⟨r, hre⟩ : ∃ r, r = T * x % S := ⟨_, rfl⟩
        rw [← hqe] at hq
        rw [← hre] at hr'
        have hqF : q = qF T S l k := by rw [hqe, HX.out]; rfl
        have hrF : r = rF T S l k := by rw [hre, HX.out]; rfl
        have hs1 : 0 ≤ sumF (qF T S l) k ∧ sumF (qF T S l) k ≤ T := by rw [HSe.out]; exact sumq_le hT (by rw [← HSe.out]; exact hS) HNn.out (by have := HN.out; omega)
        have hs3 : 0 ≤ sumF (qF T S l) (k + 1) ∧ sumF (qF T S l) (k + 1) ≤ T := by rw [HSe.out]; exact sumq_le hT (by rw [← HSe.out]; exact hS) HNn.out (by have := HN.out; omega)
        have hs4 : sumF (qF T S l) (k + 1) = sumF (qF T S l) k + q := by rw [hqF]; rfl
        have hq0 : 0 ≤ q := by rw [hqF]; exact qF_nonneg hT hS HNn.out k
        have hqT : q ≤ T := by omega
        have hL := HL.out
        have hL1 : -9223372036854775808 ≤ L - q := by omega
        have hL2 : L - q ≤ 9223372036854775807 := by have := HT1.out; omega
        have HL' : Hid (L - q = T - sumF (qF T S l) (k + 1)) := Lib.hid (by omega)
        have HI1 := Lib.hid (rint_any q _ _ hq (int_lim (by omega) (by have := HT1.out; omega)))
        have HFit : Hid (FitsZ q) := Lib.hid ⟨by omega, by have := HT1.out; omega⟩
        have HRI1 := Lib.hid (HRI.out.keep hbl)
        have HFar := Lib.hid ((BigFar.of hr' hl).turn (Nat.le_refl _) (fun _ _ _ _ => rfl) (Bad' := fun b => u6.ownBlock = some b ∨ u7.ownBlock = some b) (fun b _ hn hb => hn (HRI.out.far b hb)))
        have HQF := Lib.hid hqF
        have HRF := Lib.hid hrF
        have HR0 := Lib.hid r0
        have HR1 := Lib.hid r1
        have HQ2 := Lib.hid hQ2
        have HNe : Hid (some Q' ≠ u6.ownBlock) := Lib.hid (fun e => by have := HRI.out.far Q' (Or.inl e.symm); omega)
        clear hqe hre hqF hrF hs1 hs3 hs4 hL hq hr' hl hbl hQ1 hQ2 r0 r1 hc0 hc1 hcx hBw
        go_wp2_with fail
        refine HI1.out.mono ?_
        rintro e w3 ⟨h1, h2, hb3⟩
        obtain rfl := h1 HFit.out
        clear h1 h2
        have r0 := (hb3.cell (p := ⟨Q', 0, none⟩) HQ2.out).trans HR0.out
        have r1 := (hb3.cell (p := ⟨Q', 1, none⟩) HQ2.out).trans HR1.out
        have HRI3 := Lib.hid (HRI1.out.keep hb3)
        have HFar3 := Lib.hid (HFar.out.keep hb3)
        have HQ3 := Lib.hid (Nat.lt_of_lt_of_le HQ2.out hb3.size)
        clear hb3
        have hown := HRI3.out.out
        have h63 : k + 1 ≤ maxLen := by unfold maxLen; omega
        have hby : (k + 1) * 8 ≤ 140737488355328 := by omega
        have hbs : w2.heap.size ≤ (w3.alloc (.cells #[.int .i64 q] 3)).heap.size := by have := HRI3.out.bel.size; simp; omega
        go_upto_region 11 with (at_builtin; refine wpList_append_loc rfl _ _ 22 rfl w2.heap.size 3 i0 (.int .i64 0) 1 8 Try.underlying22 hi0 hz0 hz1 hz2 rfl (by decide) _ _ _ rfl (hown.alloc _) ⟨w3.heap.size, 0, none⟩ 1 1 [.int .i64 q] rfl rfl (one_cell w3 _ _) (one_one _) h63 hby hbs ?_; intro vo' w4 hown' hgrow hloc; have hp := RI.pushOut (HRI3.out.keep (below_alloc' (Below.refl _ _))) hown' hgrow hloc HQF.out; have HRI4 := Lib.hid hp.1; have HFar4 := Lib.hid (hp.2 _ _ (HFar3.out.keep (below_alloc' (Below.refl _ _)))); have r0' := cell_grown hgrow HNe.out r0; have r1' := cell_grown hgrow HNe.out r1; clear hp hown' hgrow hloc r0 r1 hown)
        obtain ⟨xs, hrow, HXs⟩ := HRI4.out.rowAt (.cells #[.bool s', .slice a' m' c'] 30)
        have hby2 : (k + 1) * 32 ≤ 140737488355328 := by omega
        have hbs2 : w2.heap.size ≤ (w4.alloc (.cells #[.bool s', .slice a' m' c'] 30)).heap.size := by have := HRI4.out.bel.size; simp; omega
        go_wp2_with (at_builtin; refine wpList_append_loc rfl _ _ 43 rfl w2.heap.size 30 j1 (.agg #[.bool false, .slice none 0 0]) 2 32 Try.underlying43 hi1 hy0 hy1 hy2 rfl (by decide) _ _ _ rfl (hrow.alloc _) ⟨w4.heap.size, 0, none⟩ 1 1 [.bool s', .slice a' m' c'] rfl rfl (two_cell w4 _ _ _) (two_one _ _ _ _) h63 hby2 hbs2 ?_; intro vr' w5 hown' hgrow hloc; have HRI5 := Lib.hid (RI.pushRow (HRI4.out.keep (below_alloc' (Below.refl _ _))) xs HXs.out (hrow.alloc _) hown' hgrow hloc (by rw [← HRF.out]; exact HFar4.out.keep (below_alloc' (Below.refl _ _)))); clear hown' hgrow hloc hrow)
        go_roundw
        case rel => exact ⟨k + 1, L - q, by omega, by go_num, rfl, HL'.out, HRI5.out⟩
        case measure => simp [intOf]; omega
    · obtain rfl : k = n := by omega
      have hl := left_lt hT (by rw [← HSe.out]; exact hS) HNn.out (by have := HN.out; omega)
      rw [← HSe.out, ← HN.out, ← hL] at hl
      obtain ⟨g, h, c1, c2, rfl, rfl, hr2⟩ := hri.cells h0
      obtain ⟨K, rfl⟩ := Int.eq_ofNat_of_zero_le hl.1
      have hKn : K < k := by omega
      have HK : Hid ((T - sumF (qF T S l) k).toNat = K) := Lib.hid (by omega)
      clear hL hri hl hlt
      go_wp2_with fail
      go_loopw [8] (fun vl wx => ∃ j m : Nat, j + m = K ∧ vl = .int .i64 m ∧ R2 w2 wx g h k (addK (qF T S l) d j) (restK (rF T S l) d j)) (fun vl _ => (intOf vl).toNat)
      case atStart => exact ⟨0, K, by omega, rfl, hr2⟩
      case round =>
        obtain ⟨j, m, hjm, rfl, hr2⟩ := hrel
        by_cases hm : 0 < m
        · have hfn := first_next HD.out (by rw [← HSe.out]; exact hS) (k := j) (by have := HN.out; omega)
          rw [← HSe.out, ← HN.out] at hfn
          obtain ⟨P, hP⟩ : ∃ P, P = addK (qF T S l) d j := ⟨_, rfl⟩
          obtain ⟨R, hR⟩ : ∃ R, R = restK (rF T S l) d j := ⟨_, rfl⟩
          have hRb : ∀ t, -1 ≤ R t ∧ R t ≤ S := fun t => by rw [hR]; exact restK_bd hS t j
          have HRb := Lib.hid hRb
          rw [← hP, ← hR] at hr2
          rw [← hR] at hfn
          have HP := Lib.hid hP
          have HR' := Lib.hid hR
          have HFn := Lib.hid hfn
          have HM : Hid (0 < (m : Int)) := Lib.hid (by omega)
          have HR2 := Lib.hid hr2
          have hmi : 0 < (m : Int) := by omega
          clear hP hR hfn hRb hr2
          go_wp2_with fail
          obtain ⟨wo, rfl⟩ : ∃ wo : World, wo = wr := ⟨_, rfl⟩
          go_loopw [14, 15] (fun vb vi wx => ∃ i b : Nat, i ≤ k ∧ 1 ≤ i ∧ vi = .int .i64 i ∧ vb = .int .i64 b ∧ FirstMax R i b ∧ R2 w2 wx g h k P R) (fun _ vi _ => k - (intOf vi).toNat)
          case atStart => exact ⟨1, 0, by omega, by omega, rfl, rfl, FirstMax.start R, HR2.out⟩
          case round =>
            obtain ⟨i, bb, hi1, hi2, rfl, rfl, hfm, hq⟩ := hrel
            by_cases hik : i < k
            · have hbk : bb < k := by have := hfm.1; omega
              obtain ⟨s1, a1, m1, d1, x0, x1, f1⟩ := hq.rc i hik
              obtain ⟨s2, a2, m2, d2, y0, y1, f2⟩ := hq.rc bb hbk
              have hRi := HRb.out i
              have hRb := HRb.out bb
              have hO := rord1_any (R i) (R bb) _ _ wr.drew (f1.big.keep (Below.drew (Below.refl _ _))) (f2.big.keep (Below.drew (Below.refl _ _))) (int_lim (by omega) (by omega)) (int_lim (by omega) (by omega))
              have HFm := Lib.hid hfm
              have HQ := Lib.hid hq
              have ik1 : (i : Int) < (k : Int) := by omega
              clear hfm hq f1 f2 hRi hRb
              by_cases hg : 0 < R i - R bb
              · rw [Int.sign_eq_one_of_pos hg] at hO
                have HO := Lib.hid hO
                have HG := Lib.hid hg
                clear hO hg
                go_wp2_with fail
                go_region_held3 (fun w' => w'.cell? ⟨h, i * 2, none⟩ = some (.bool s1) ∧ w'.cell? ⟨h, i * 2 + 1, none⟩ = some (.slice a1 m1 d1) ∧ w'.cell? ⟨h, bb * 2, none⟩ = some (.bool s2) ∧ w'.cell? ⟨h, bb * 2 + 1, none⟩ = some (.slice a2 m2 d2))
                  (first | (with_reducible exact ⟨x0', x1', y0', y1'⟩) | (with_reducible exact ⟨x0, x1, y0, y1⟩) | go_keep)
                  (first | (go_at_call 18; (with_reducible refine HO.out.mono ?_); rintro e w3 ⟨rfl, hb3⟩; have HQ3 := Lib.hid (HQ.out.keep (undrewB hb3)); have hh := HQ.out.lo.2.2.2.2; have x0' := ((undrewB hb3).cell (p := ⟨h, i * 2, none⟩) hh).trans x0; have x1' := ((undrewB hb3).cell (p := ⟨h, i * 2 + 1, none⟩) hh).trans x1; have y0' := ((undrewB hb3).cell (p := ⟨h, bb * 2, none⟩) hh).trans y0; have y1' := ((undrewB hb3).cell (p := ⟨h, bb * 2 + 1, none⟩) hh).trans y1; clear hb3))
                go_wp2_with fail
                go_roundw
                case rel => exact ⟨i + 1, i, by omega, by omega, by go_num, rfl, HFm.out.up HG.out, HQ3.out⟩
                case measure => simp [intOf]; omega
              · obtain ⟨sg', hsg, hsn⟩ : ∃ sg', (R i - R bb).sign = sg' ∧ ¬ 0 < sg' := ⟨_, rfl, fun hp => hg (Int.sign_pos_iff.1 hp)⟩
                rw [hsg] at hO
                have hd0 : decide (0 < sg') = false := decide_eq_false hsn
                have HO := Lib.hid hO
                have HG := Lib.hid hg
                clear hO hg hsg hsn
                go_wp2_with fail
                go_region_held3 (fun w' => w'.cell? ⟨h, i * 2, none⟩ = some (.bool s1) ∧ w'.cell? ⟨h, i * 2 + 1, none⟩ = some (.slice a1 m1 d1) ∧ w'.cell? ⟨h, bb * 2, none⟩ = some (.bool s2) ∧ w'.cell? ⟨h, bb * 2 + 1, none⟩ = some (.slice a2 m2 d2))
                  (first | (with_reducible exact ⟨x0', x1', y0', y1'⟩) | (with_reducible exact ⟨x0, x1, y0, y1⟩) | go_keep)
                  (first | (go_at_call 18; (with_reducible refine HO.out.mono ?_); rintro e w3 ⟨rfl, hb3⟩; have HQ3 := Lib.hid (HQ.out.keep (undrewB hb3)); have hh := HQ.out.lo.2.2.2.2; have x0' := ((undrewB hb3).cell (p := ⟨h, i * 2, none⟩) hh).trans x0; have x1' := ((undrewB hb3).cell (p := ⟨h, i * 2 + 1, none⟩) hh).trans x1; have y0' := ((undrewB hb3).cell (p := ⟨h, bb * 2, none⟩) hh).trans y0; have y1' := ((undrewB hb3).cell (p := ⟨h, bb * 2 + 1, none⟩) hh).trans y1; clear hb3))
                go_wp2_with fail
                go_roundw
                case rel => exact ⟨i + 1, bb, by omega, by omega, by go_num, rfl, HFm.out.stay (Int.not_lt.2 HG.out), HQ3.out⟩
                case measure => simp [intOf]; omega
            · obtain rfl : i = k := by omega
              have hbe := hfm.one HFn.out.1
              obtain ⟨hfa, hfb⟩ := HFn.out
              rw [← hbe] at hfb
              have hbk : bb < i := hfm.1
              have hpt := partF_bd (T := T) (d := d) hT (by rw [← HSe.out]; exact hS) HNn.out (t := bb) (by have := HN.out; omega)
              have hP1 : P bb + 1 = addK (qF T S l) d (j + 1) bb := by rw [HP.out]; show _ = addK (qF T S l) d j bb + (if (bb : Int) = d[j]! then 1 else 0); rw [if_pos hfb]
              have hle : P bb + 1 ≤ T := by
                rw [hP1]
                refine Int.le_trans (addK_le _ d bb (k := K) (by omega)) (Int.le_trans ?_ hpt.2)
                unfold partF
                rw [← HSe.out, ← HN.out, HK.out]; exact Int.le_refl _
              have hge : 0 ≤ P bb := by rw [HP.out]; exact Int.le_trans (qF_nonneg hT hS HNn.out bb) (addK_bd _ d bb j).1
              have hPo : ∀ t, t < i → t ≠ bb → addK (qF T S l) d (j + 1) t = P t := fun t ht hne => by
                rw [HP.out]; show addK (qF T S l) d j t + (if (t : Int) = d[j]! then 1 else 0) = _
                rw [if_neg (by omega)]; omega
              have hR1 : restK (rF T S l) d (j + 1) bb = -1 := by show (if (bb : Int) = d[j]! then -1 else _) = _; rw [if_pos hfb]
              have hRo : ∀ t, t < i → t ≠ bb → restK (rF T S l) d (j + 1) t = R t := fun t ht hne => by
                rw [HR'.out]; show (if (t : Int) = d[j]! then -1 else restK (rF T S l) d j t) = _
                rw [if_neg (by omega)]
              obtain ⟨s2, a2, m2, d2, y0, y1, _⟩ := hq.rc bb hbk
              have HEnd := Lib.hid ((hq.inc hbk hP1 hPo).had' hbk hR1 hRo (S := wr.heap.size) (by simp))
              obtain ⟨_, ⟨_, _, hgh, _, _⟩, oc, frz, _⟩ := hq
              have x0 := oc bb hbk
              have z0 := (frz bb).1
              have z1 := (frz (bb * 2)).2
              have z2 := (frz (bb * 2 + 1)).2
              have ik1 : (bb : Int) < (i : Int) := by omega
              obtain ⟨p, hp⟩ : ∃ p, p = P bb := ⟨_, rfl⟩
              rw [← hp] at x0 hle hge HEnd
              have HP1 := Lib.hid hP1
              have hT1' := HT1.out
              have hp1 : p + 1 ≤ 9223372036854775807 := by omega
              clear hfm hbe hfa hfb hP1 hPo hR1 hRo hp oc frz hle hpt
              go_wp2_with fail
              go_roundw
              case rel => exact ⟨j + 1, m - 1, by omega, by go_num, HEnd.out⟩
              case measure => simp [intOf]; omega
        · obtain rfl : m = 0 := by omega
          obtain rfl : j = K := by omega
          have HR2 := Lib.hid hr2
          have HBl := Lib.hid (HKB.out.trans (hr2.bel.mono HKB.out.size))
          have HGe := Lib.hid (Nat.le_trans HKB.out.size hr2.lo.1)
          clear hr2 hm
          go_wp2_with fail
          go_ret
          refine ⟨⟨g, c1, rfl, HGe.out, fun t ht => ⟨?_, (HR2.out.frz t).1⟩⟩, HBl.out⟩
          rw [HR2.out.oc t ht]
          unfold partF
          rw [← HSe.out, ← HN.out, HK.out]

end Go.Proofs.Ytbjjogbnndmmmaa

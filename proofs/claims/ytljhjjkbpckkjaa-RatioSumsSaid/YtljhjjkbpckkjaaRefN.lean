/-
  chattelref01's Near: its contract.
-/
import Derived.Test.YtljhjjkbpckkjaaRefM
namespace Go.Proofs.Ytljhjjkbpckkjaa
open Go.RowKit
set_option linter.unusedVariables false

theorem plus_twice {w3 : World} {base : Nat} {v : Value} {out : List Int} {R : Nat} (ho : Own w3 base v out) (hv : val out = val (bitsN R) + val (bitsN R)) (hbt : IsBits out) (hcn : Canon (bitsN R) → Canon (bitsN R) → Canon out) : ∃ a n c, v = .slice a n c ∧ SL w3 (.slice a n c) (bitsN (2 * R)) ∧ n = (bitsN (2 * R)).length := by
  rw [val_bitsN] at hv
  have e := canon_of_val hbt (hcn (canon_bitsN _) (canon_bitsN _)) (n := 2 * R) (by omega)
  obtain ⟨a, c, h1, h2, h3, h4⟩ := ho.sl
  rw [e] at h1 h2 h4
  exact ⟨a, _, c, h1, ⟨a, c, rfl, h2, h3, h4⟩, rfl⟩

theorem first_bit (N : Nat) : (bitsN N).getD 0 0 = ((N % 2 : Nat) : Int) := by
  by_cases h : N = 0
  · rw [h, bitsN_zero]; rfl
  · rw [bitsN_pos h]; rfl

theorem near_at {wx : World} {qa : Option Addr} {qn qc N : Nat} (h : SL wx (.slice qa qn qc) (bitsN N)) (hl : qn ≤ 1000) :
    Calls Try.prog 48 #[.slice qa qn qc, .int .i64 0] wx fun e w' => e = .returned (.int .i64 ((N % 2 : Nat) : Int)) ∧ w' = wx := by
  obtain ⟨h1, h2⟩ := h.len
  have := at_any (bitsN N) qa qc 0 wx h2 (by omega) (by omega)
  rw [first_bit, ← h1] at this
  exact this

theorem NearW.big {w wx : World} {Q : Nat} {sa sb : Bool} {b : Option Addr} {m d : Nat} {qa : Option Addr} {qn qc : Nat} {ra : Option Addr} {rn rc N R : Nat} (h : NearW w wx Q sa sb b m d false qa qn qc ra rn rc N R) : BigV wx (.agg #[.bool false, .slice qa qn qc]) (N : Int) :=
  ⟨_, by rw [decide_eq_false (show ¬ ((N : Int) < 0) by omega)], by rw [Int.natAbs_natCast]; exact h.bq⟩
theorem below_undrew {w w' : World} (h : Below w.drew.heap.size w.drew w') : Below w.heap.size w w' := ⟨h.os, h.tape, h.output, h.size, h.block⟩

theorem up_bool (oz : Int) (N : Nat) : (decide (0 < oz) || (decide (oz = 0) && decide (N % 2 = 1))) = (decide (0 < oz) || ((oz == 0) && (((N % 2 : Nat) : Int) == 1))) := by
  have e1 : decide (oz = 0) = (oz == 0) := by rw [Bool.eq_iff_iff]; simp
  have e2 : decide (N % 2 = 1) = (((N % 2 : Nat) : Int) == 1) := by rw [Bool.eq_iff_iff, decide_eq_true_iff, beq_iff_eq]; omega
  rw [e1, e2]
theorem near_lim {k N : Nat} (h : (bitsN N).length ≤ k) : (N : Int).natAbs < 2 ^ k := by rw [Int.natAbs_natCast]; exact bitsN_lt h

/-- Near's cells behind the test. -/
def NearAny (w wx : World) (Q : Nat) (sa sb : Bool) (b : Option Addr) (m d : Nat) (ra : Option Addr) (rn rc N R : Nat) : Prop := ∃ qa qn qc, NearW w wx Q sa sb b m d false qa qn qc ra rn rc N R

/-- The number's sign is put; the number is handed over. -/
theorem near_end {w wx : World} {Q : Nat} {sa sb : Bool} {b : Option Addr} {m d : Nat} {sq : Bool} {qa : Option Addr} {qn qc : Nat} {ra : Option Addr} {rn rc N R : Nat} (h : NearW w wx Q sa sb b m d sq qa qn qc ra rn rc N R) (s : Bool) (hs : s = ((sa != sb) && decide (0 < N))) :
    BigV (((wx.setCell ⟨Q, 0, none⟩ (.bool s)).setCell ⟨w.heap.size + 1 + 1, 0, none⟩ (.bool s)).setCell ⟨w.heap.size + 1 + 1, 1, none⟩ (.slice qa qn qc)) (.agg #[.bool s, .slice qa qn qc]) (sgn ((sa != sb) && decide (0 < N)) N) ∧ Below w.heap.size w (((wx.setCell ⟨Q, 0, none⟩ (.bool s)).setCell ⟨w.heap.size + 1 + 1, 0, none⟩ (.bool s)).setCell ⟨w.heap.size + 1 + 1, 1, none⟩ (.slice qa qn qc)) := by
  have h1 := h.sign s
  have hn : (sgn ((sa != sb) && decide (0 < N)) (N : Int)).natAbs = N := by unfold sgn; split <;> omega
  have hz : s = decide (sgn ((sa != sb) && decide (0 < N)) (N : Int) < 0) := by
    rw [hs]; unfold sgn
    by_cases g : ((sa != sb) && decide (0 < N)) = true
    · rw [g]; simp at g ⊢; try omega
    · have g' : ((sa != sb) && decide (0 < N)) = false := by simpa using g
      rw [g']; simp
  have hsl : SL (wx.setCell ⟨Q, 0, none⟩ (.bool s)) (.slice qa qn qc) (bitsN (sgn ((sa != sb) && decide (0 < N)) (N : Int)).natAbs) := by rw [hn]; exact h1.bq
  refine ⟨big_stored hz hsl h1.r0 h1.r1, Below.setCell (Below.setCell h1.bel (show w.heap.size ≤ w.heap.size + 1 + 1 by omega) _) (show w.heap.size ≤ w.heap.size + 1 + 1 by omega) _⟩

set_option maxHeartbeats 4000000 in
set_option maxRecDepth 100000 in
theorem near_main (X Y : Nat) (a b : Option Addr) (c d n m : Nat) (w : World) (h : SLF w a (bitsN X)) (h' : SLF w b (bitsN Y)) (hn : n = (bitsN X).length) (hm : m = (bitsN Y).length) (hY : 0 < Y) (ln : n ≤ 900) (lm : m ≤ 900) (sa sb : Bool) :
    Calls Try.prog 13 #[.agg #[.bool sa, .slice a n c], .agg #[.bool sb, .slice b m d]] w fun e w' => (∃ v, e = .returned v ∧ BigV w' v (sgn ((sa != sb) && decide (0 < nearN X Y)) (nearN X Y))) ∧ Below w.heap.size w w' := by
  have HY := Lib.hid h'
  have HM := Lib.hid hm
  have HPt := Lib.hid (fun o1 o2 o3 => parts_main X Y a b c d n m (((w.alloc o1).alloc o2).alloc o3) (h.keep (drewN_below3 w o1 o2 o3 0)) (h'.keep (drewN_below3 w o1 o2 o3 0)) hn hm hY (by omega) (by omega) sa sb)
  have lq : ∀ k, k = (bitsN (X / Y)).length → k ≤ 900 := fun k e => by
    have h1 := bitsN_lt (n := X) (k := 900) (by omega)
    have h2 := bitsN_len 900 (X / Y) (Nat.lt_of_le_of_lt (Nat.div_le_self _ _) h1)
    omega
  have lr : ∀ k, k = (bitsN (X % Y)).length → k ≤ 900 := fun k e => by
    have h1 := bitsN_lt (n := Y) (k := 900) (by omega)
    have h2 := bitsN_len 900 (X % Y) (Nat.lt_of_lt_of_le (Nat.mod_lt _ hY) (Nat.le_of_lt h1))
    omega
  have lrr : ∀ k, k = (bitsN (2 * (X % Y))).length → k ≤ 901 := fun k e => by
    have h2 := len_next (R := X % Y) (Y := Y) (u := 0) (Nat.mod_lt _ hY) hm (Or.inl rfl)
    rw [show (0 : Int).toNat + 2 * (X % Y) = 2 * (X % Y) from by simp] at h2
    omega
  have HLQ := Lib.hid lq
  have HLR := Lib.hid lr
  have HLRR := Lib.hid lrr
  have HUp : Hid (nearN X Y = X / Y + (upN X Y).toNat) := Lib.hid rfl
  have HUd : Hid (upN X Y = (decide (0 < ordZ (2 * (X % Y)) Y) || (decide (ordZ (2 * (X % Y)) Y = 0) && decide ((X / Y) % 2 = 1)))) := Lib.hid rfl
  clear h h' hn hm lq lr lrr
  go_enter Try.func13, Try.ntmps13
  go_wp2_with fail
  refine (HPt.out _ _ _).mono ?_
  rintro e w1 ⟨v1, v2, rfl, hv1, hv2, hb1⟩
  obtain ⟨qa, qn, qc, rfl, hq⟩ := bigv_nat hv1
  obtain ⟨ra, rn, rc, rfl, hr⟩ := bigv_nat hv2
  go_wp2_with fail
  have HN := Lib.hid (near_start (e' := 29) hb1 hq hr)
  have hrn := hr.len.1
  have hqn := hq.len.1
  have lq := HLQ.out qn hqn
  have lr := HLR.out rn hrn
  have HYb : Hid (SLF w1 b (bitsN Y)) := Lib.hid ((HY.out.keep (drewN_below3 w _ _ _ 0)).keep hb1)
  have HYW : Hid (SLF ((w1.alloc (.cells #[.bool false, .slice qa qn qc] 29)).alloc (.cells #[.bool false, .slice ra rn rc] 29)) b (bitsN Y)) := Lib.hid (HYb.out.keep (Below.alloc (Below.alloc (Below.refl _ _) (Nat.le_refl _) _) (by simp) _))
  have HRn := Lib.hid hrn
  clear hv1 hv2 hb1 hq hr hrn hqn HPt HYb HY
  generalize w1.heap.size = Q at HN ⊢
  generalize (w1.alloc (.cells #[.bool false, .slice qa qn qc] 29)).alloc (.cells #[.bool false, .slice ra rn rc] 29) = W at HN HYW ⊢
  generalize X / Y = N at *
  generalize X % Y = R at *
  go_cut [7] (fun t wx => t = .int .i64 (ordZ (2 * R) Y) ∧ NearW w wx Q sa sb b m d false qa qn qc ra rn rc N R)
  case first =>
    obtain ⟨a0, b0, b1, r0, r1, f0, f1, q0, q1, g0, g1, t1, bq, br, bel, lqq, sz⟩ := id HN.out
    have HPl := Lib.hid (HRn.out.symm ▸ plus_any (bitsN R) (bitsN R) ra ra rc rc W.drew ((br.len.2).keep (Below.drew (Below.refl _ _))) ((br.len.2).keep (Below.drew (Below.refl _ _))) (bits_of_bitsN _) (bits_of_bitsN _) (by have := HRn.out; omega) (by have := HRn.out; omega))
    clear bq br bel
    go_region_with (first | (go_at_call 47; refine HPl.out.mono ?_; rintro e w3 ⟨v, out, rfl, ho, hb, hv, hbt, hcn, hl⟩; obtain ⟨va, vn, vc, hve, hsl, hvn⟩ := plus_twice ho hv hbt hcn; have HN3 := Lib.hid (HN.out.keep (below_undrew hb)); obtain ⟨a0', b0', b1', r0', r1', f0', f1', q0', q1', g0', g1', t1', _, _, _, _, _⟩ := id HN3.out; have HOr := Lib.hid (parts_ord (d := d) hsl ((HYW.out.keep (below_undrew hb))) HM.out (by omega) (by have := HLRR.out vn hvn; omega)); subst hve; clear ho hb hv hbt hcn hl hsl hvn) | (go_at_call 46; refine HOr.out.mono ?_; rintro e w4 ⟨rfl, q, rfl⟩))
    all_goals go_wp2
    all_goals go_meet
    all_goals exact ⟨rfl, HN3.out.keep (drewN_below' _ _)⟩
  case rest =>
    obtain ⟨rfl, hN⟩ := hcut
    rename_i wc
    have HAt := Lib.hid (near_at hN.bq (by omega))
    have HN2 := Lib.hid hN
    obtain ⟨a0, b0, b1, r0, r1, f0, f1, q0, q1, g0, g1, t1, bq, br, bel, lqq, sz⟩ := id hN
    clear bq br bel hN HN HRn
    go_upto_region 3 with fail
    go_cut [33] (fun t wx => t = .bool (upN X Y) ∧ wc = wx)
    case first =>
      have hU := HUd.out
      generalize upN X Y = u at *
      generalize ordZ (2 * R) Y = oz at *
      have hU2 : u = (decide (0 < oz) || ((oz == 0) && (((N % 2 : Nat) : Int) == 1))) := hU.trans (up_bool oz N)
      have HU := Lib.hid hU2
      clear HUp HUd hU hU2
      generalize ((N % 2 : Nat) : Int) = ev at *
      by_cases h1 : 0 < oz
      · go_wp2
        go_meet
        exact ⟨by rw [HU.out, decide_eq_true h1]; rfl, rfl⟩
      · by_cases h2 : oz = 0
        · have h2b : (oz == 0) = true := by simpa using h2
          clear h2
          go_wp2_with (go_at_call 48; refine HAt.out.mono ?_; rintro e w' ⟨rfl, rfl⟩)
          go_meet
          exact ⟨by rw [HU.out, decide_eq_false (show ¬ 0 < oz by omega), h2b]; rfl, rfl⟩
        · have h2b : (oz == 0) = false := by simpa using h2
          clear h2
          go_wp2
          go_meet
          exact ⟨by rw [HU.out, decide_eq_false (show ¬ 0 < oz by omega), h2b]; rfl, rfl⟩
    case rest =>
    obtain ⟨rfl, rfl⟩ := hcut
    go_upto_if 33 with fail
    go_cut [] (fun wx => NearAny w wx Q sa sb b m d ra rn rc (nearN X Y) R)
    case first =>
      have hUp := HUp.out
      generalize upN X Y = u at *
      cases u
      · have HFin : Hid (NearAny w wc Q sa sb b m d ra rn rc (nearN X Y) R) := Lib.hid (by rw [hUp]; exact ⟨_, _, _, HN2.out⟩)
        clear hUp HUp HUd
        go_wp2
        go_meet
        exact HFin.out
      · have hfin : ∀ W', NearAny w W' Q sa sb b m d ra rn rc (N + 1) R → NearAny w W' Q sa sb b m d ra rn rc (nearN X Y) R := fun W' h => by rw [hUp]; exact h
        have HFin := Lib.hid hfin
        have HOf := Lib.hid (of_any 1 wc.drew (by omega) (by omega))
        have HLim := Lib.hid (near_lim (k := 1000) (N := N) (by have := HN2.out.bq.len.1; omega))
        clear hUp HUp HUd hfin
        go_wp2
        go_region_with (first | (go_at_call 15; refine HOf.out.mono ?_; rintro e w3 ⟨⟨v1, rfl, hv1⟩, hb1⟩; obtain ⟨a1, c1, hve, ga⟩ := id hv1.open; have hn3 := HN2.out.keep (below_undrew hb1); obtain ⟨a0', b0', b1', r0', r1', f0', f1', q0', q1', g0', g1', t1', _, _, _, _, _⟩ := id hn3; have HAdd := Lib.hid (radd_any (N : Int) 1 _ _ w3 hn3.big hv1 HLim.out (int_lim (by decide) (by decide))); have HN3 := Lib.hid hn3; subst hve; clear hv1 hb1 hn3 ga) | (go_at_call 49; refine HAdd.out.mono ?_; rintro e w4 ⟨⟨v2, rfl, hv2⟩, hb2⟩; obtain ⟨a2, n2, c2, hve2, ga2⟩ := bigv_nat (x := N + 1) hv2; subst hve2; have hn4 := HN3.out.keep hb2; obtain ⟨a0'', b0'', b1'', r0'', r1'', f0'', f1'', q0'', q1'', g0'', g1'', t1'', _, _, _, _, _⟩ := id hn4; have HN4 := Lib.hid (hn4.store false ga2); clear hv2 hb2 hn4 ga2))
        all_goals go_wp2
        all_goals go_meet
        all_goals exact HFin.out _ ⟨_, _, _, HN4.out⟩
    case rest =>
      obtain ⟨qa', qn', qc', hN'⟩ := hcut
      rename_i wd
      obtain ⟨a0, b0, b1, r0, r1, f0, f1, q0, q1, g0, g1, t1, bq, br, bel, lqq, sz⟩ := id hN'
      have hne : w.heap.size + 1 + 1 ≠ Q := by omega
      have hq0 : decide (0 < qn') = decide (0 < nearN X Y) := by
        have h1 := bq.len.1
        have h2 := bitsN_len_pos (z := (nearN X Y : Int))
        rw [Int.natAbs_natCast, ← h1] at h2
        by_cases g : 0 < nearN X Y
        · rw [decide_eq_true g, decide_eq_true (h2.2 (by omega))]
        · rw [decide_eq_false g, decide_eq_false (fun k => h2.1 k (by omega))]
      have HQ := Lib.hid hq0
      have HN3 := Lib.hid hN'
      clear bq br bel hN' hq0 HUp HUd HAt HN2
      cases sa <;> cases sb
      · go_wp2
        have hR := near_end HN3.out false (by rfl)
        exact bodyPost_ret (v := .agg #[.bool false, .slice qa' qn' qc']) (by simp [results, Try.results13, go_sem, r0, r1]) rfl ⟨⟨_, rfl, hR.1⟩, hR.2⟩
      · go_wp2
        have hR := near_end HN3.out (decide (0 < qn')) (by rw [HQ.out]; rfl)
        exact bodyPost_ret (v := .agg #[.bool (decide (0 < qn')), .slice qa' qn' qc']) (by simp [results, Try.results13, go_sem, r0, r1]) rfl ⟨⟨_, rfl, hR.1⟩, hR.2⟩
      · go_wp2
        have hR := near_end HN3.out (decide (0 < qn')) (by rw [HQ.out]; rfl)
        exact bodyPost_ret (v := .agg #[.bool (decide (0 < qn')), .slice qa' qn' qc']) (by simp [results, Try.results13, go_sem, r0, r1]) rfl ⟨⟨_, rfl, hR.1⟩, hR.2⟩
      · go_wp2
        have hR := near_end HN3.out false (by rfl)
        exact bodyPost_ret (v := .agg #[.bool false, .slice qa' qn' qc']) (by simp [results, Try.results13, go_sem, r0, r1]) rfl ⟨⟨_, rfl, hR.1⟩, hR.2⟩

theorem near_any (x y : Int) (v v' : Value) (w : World) (h : BigV w v x) (h' : BigV w v' y) (hy : y ≠ 0) (lx : x.natAbs < 2 ^ 900) (ly : y.natAbs < 2 ^ 900) :
    Calls Try.prog 13 #[v, v'] w fun e w' => (∃ v, e = .returned v ∧ BigV w' v (sgn ((decide (x < 0) != decide (y < 0)) && decide (0 < nearN x.natAbs y.natAbs)) (nearN x.natAbs y.natAbs))) ∧ Below w.heap.size w w' := by
  obtain ⟨a, c, rfl, g⟩ := h.open
  obtain ⟨b, d, rfl, g'⟩ := h'.open
  exact near_main x.natAbs y.natAbs a b c d _ _ w g.1 g'.1 rfl rfl (by omega) (bitsN_len _ _ lx) (bitsN_len _ _ ly) _ _

end Go.Proofs.Ytljhjjkbpckkjaa

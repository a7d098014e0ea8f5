/-
  chattelref02: Ratio, Check.
-/
import Derived.Test.YtljhjjkbpckkjaaRefP
import Derived.Test.YtljhjjkbpckkjaaRatK
namespace Go.Proofs.Ytljhjjkbpckkjaa
open Go.RowKit
set_option linter.unusedVariables false

theorem parts_any (x y : Int) (v v' : Value) (w : World) (h : BigV w v x) (h' : BigV w v' y) (hy : y ≠ 0) (lx : x.natAbs < 2 ^ 1000) (ly : y.natAbs < 2 ^ 1000) :
    Calls Try.prog 45 #[v, v'] w (PartsPost x.natAbs y.natAbs w) := by
  obtain ⟨a, c, rfl, g⟩ := h.open
  obtain ⟨b, d, rfl, g'⟩ := h'.open
  exact parts_main x.natAbs y.natAbs a b c d _ _ w g.1 g'.1 rfl rfl (by omega) (bitsN_len _ _ lx) (bitsN_len _ _ ly) _ _

theorem fit_parts (n d : Int) (hd : d ≠ 0) : fitV (rat n d) = if 9223372036854775807 < absI n / ((Int.gcd n d : Nat) : Int) ∨ 9223372036854775807 < absI d / ((Int.gcd n d : Nat) : Int) then tup 0 0 11 else tup (sgn (decide (n < 0) != decide (d < 0)) (absI n / ((Int.gcd n d : Nat) : Int))) (absI d / ((Int.gcd n d : Nat) : Int)) 0 := by
  obtain ⟨hnum, hden⟩ := of_parts n d hd
  have hg : 0 < ((Int.gcd n d : Nat) : Int) := by have := Int.gcd_pos_of_ne_zero_right n hd; omega
  generalize ((Int.gcd n d : Nat) : Int) = g at *
  have pn0 := (quo_bd (a := absI n) (by unfold absI; omega) hg).1
  have pd0 := (quo_bd (a := absI d) (by unfold absI; omega) hg).1
  unfold fitV
  by_cases h : 9223372036854775807 < absI n / g ∨ 9223372036854775807 < absI d / g
  · rw [if_pos h]
    have hf : fitsR (rat n d) = false := by
      unfold fitsR; rw [hnum, hden]; apply decide_eq_false
      rintro ⟨h1, h2, h3⟩
      rcases h with h | h
      · generalize (decide (n < 0) != decide (d < 0)) = sg at h1 h2
        cases sg
        · have : absI n / g ≤ 9223372036854775807 := h2
          omega
        · have : -9223372036854775807 ≤ -(absI n / g) := h1
          omega
      · omega
    obtain ⟨e1, e2, e3⟩ := fit_out hf
    rw [e1, e2, e3]
  · rw [if_neg h]
    have hf : fitsR (rat n d) = true := by
      unfold fitsR; rw [hnum, hden]; apply decide_eq_true
      unfold sgn
      refine ⟨?_, ?_, by omega⟩
      · split <;> omega
      · split <;> omega
    obtain ⟨e1, e2, e3⟩ := fit_in hf
    rw [e1, e2, e3, hnum, hden]

theorem nat_quo (n : Int) (g : Nat) : ((n.natAbs / g : Nat) : Int) = absI n / (g : Int) := by unfold absI; rw [Int.natCast_ediv]
theorem gcd_lim {k : Nat} {n d : Int} (hd : d ≠ 0) (l : d.natAbs < 2 ^ k) : ((Int.gcd n d : Nat) : Int).natAbs < 2 ^ k := by
  rw [Int.natAbs_natCast]
  exact Nat.lt_of_le_of_lt (Nat.gcd_le_right _ (by omega)) l
theorem quo_lim {k x y : Nat} (l : x < 2 ^ k) : ((x / y : Nat) : Int).natAbs < 2 ^ k := by
  rw [Int.natAbs_natCast]
  exact Nat.lt_of_le_of_lt (Nat.div_le_self _ _) l
theorem lim_up {k m x : Nat} (h : k ≤ m) (l : x < 2 ^ k) : x < 2 ^ m := Nat.lt_of_lt_of_le l (Nat.pow_le_pow_right (by decide) h)

/-- A number that is not below nought: does it fit? -/
def fitB (z : Nat) : Bool := decide ((z : Int) ≤ 9223372036854775807)
def fitM (z : Nat) : Int := if fitB z then (z : Int) else 0
theorem rintN_any (z : Nat) (v : Value) (w : World) (h : BigV w v (z : Int)) (hz : (z : Int).natAbs < 2 ^ 1000) :
    Calls Try.prog 17 #[v] w fun e w' => e = .returned (.tuple #[.int .i64 (fitM z), .bool (fitB z)]) ∧ Below w.heap.size w w' := by
  refine (rint_any (z : Int) v w h hz).mono ?_
  rintro e w' ⟨h1, h2, hb⟩
  refine ⟨?_, hb⟩
  unfold fitM fitB
  by_cases g : (z : Int) ≤ 9223372036854775807
  · rw [decide_eq_true g]; exact h1 ⟨by omega, g⟩
  · rw [decide_eq_false g]; exact h2 (fun k => g k.2)

set_option maxHeartbeats 8000000 in
set_option maxRecDepth 100000 in
theorem rratio_any (n d : Int) (v : Value) (w : World) (h : BigQ w v n d) (hd : d ≠ 0) (ln : n.natAbs < 2 ^ 900) (ld : d.natAbs < 2 ^ 900) :
    Calls Try.prog 25 #[v] w fun e w' => e = .returned (fitV (rat n d)) ∧ Below w.heap.size w w' := by
  obtain ⟨sn, an, kn, cn, sd, ad, kd, cd, rfl, hn', hd', hsn, hsd⟩ := h.parts
  have HSn := Lib.hid hsn
  have HSd := Lib.hid hsd
  have hgz : ((Int.gcd n d : Nat) : Int) ≠ 0 := by have := Int.gcd_pos_of_ne_zero_right n hd; omega
  have HF := Lib.hid (fit_parts n d hd)
  have ln' : n.natAbs < 2 ^ 1000 := lim_up (k := 900) (m := 1000) (by decide) ln
  have ld' : d.natAbs < 2 ^ 1000 := lim_up (k := 900) (m := 1000) (by decide) ld
  have lg' : ((Int.gcd n d : Nat) : Int).natAbs < 2 ^ 1000 := gcd_lim (k := 1000) hd ld'
  have HC := Lib.hid (fun v v' w (h : BigV w v n) (h' : BigV w v' d) => com_any n d v v' w h h' ln ld)
  have HP1 := Lib.hid (fun v v' w (h : BigV w v n) (h' : BigV w v' ((Int.gcd n d : Nat) : Int)) => parts_any n _ v v' w h h' hgz ln' lg')
  have HP2 := Lib.hid (fun v v' w (h : BigV w v d) (h' : BigV w v' ((Int.gcd n d : Nat) : Int)) => parts_any d _ v v' w h h' hgz ld' lg')
  rw [Int.natAbs_natCast] at HP1 HP2
  have HI1 := Lib.hid (fun v w (h : BigV w v ((n.natAbs / Int.gcd n d : Nat) : Int)) => rintN_any _ v w h (quo_lim (k := 1000) ln'))
  have HI2 := Lib.hid (fun v w (h : BigV w v ((d.natAbs / Int.gcd n d : Nat) : Int)) => rintN_any _ v w h (quo_lim (k := 1000) ld'))
  have HB := Lib.hid hn'
  have HD := Lib.hid hd'
  rw [← nat_quo, ← nat_quo] at HF
  have hp1 : 0 ≤ ((n.natAbs / Int.gcd n d : Nat) : Int) := Int.natCast_nonneg _
  have hp2 : 0 ≤ ((d.natAbs / Int.gcd n d : Nat) : Int) := Int.natCast_nonneg _
  generalize n.natAbs % Int.gcd n d = n4 at *
  generalize d.natAbs % Int.gcd n d = n5 at *
  clear h hn' hd' hsn hsd hgz ln ld hd ln' ld' lg'
  go_enter Try.func25, Try.ntmps25
  go_wp2_with fail
  have K0 := Lib.hid (HeldV.two w [.bool sn, .slice an kn cn, .bool sd, .slice ad kd cd] [.int .i64 0, .int .i64 0] 48 42)
  refine (HC.out _ _ _ (HB.out.keep K0.out.bel) (HD.out.keep K0.out.bel)).mono ?_
  rintro e w1 ⟨⟨v1, rfl, hv1⟩, hb1⟩
  obtain ⟨s1, a1, k1, c1, rfl, hv1'⟩ := hv1.shape
  have K1 := Lib.hid (K0.out.keep hb1)
  have G1 := Lib.hid hv1'
  clear hb1 hv1 hv1' K0
  obtain ⟨x0, _⟩ := K1.out.get 1 rfl 0 rfl
  obtain ⟨x1, _⟩ := K1.out.get 1 rfl 1 rfl
  have lx := K1.out.lt 1 rfl
  go_wp2_with fail
  have K2 := Lib.hid (K1.out.push [.bool s1, .slice a1 k1 c1] 29)
  have kb : Below w1.heap.size w1 (w1.alloc (.cells #[.bool s1, .slice a1 k1 c1] 29)) := Below.alloc (Below.refl _ _) (Nat.le_refl _) _
  refine (HP1.out _ _ _ (HB.out.keep K2.out.bel) (G1.out.keep kb)).mono ?_
  rintro e w2 ⟨v2, v3, rfl, hv2, hv3, hb2⟩
  obtain ⟨s2, a2, k2, c2, rfl, hv2'⟩ := hv2.shape
  obtain ⟨s3, a3, k3, c3, rfl, hv3'⟩ := hv3.shape
  have K3 := Lib.hid (K2.out.keep hb2)
  have G2 := Lib.hid ((G1.out.keep kb).keep hb2)
  have N2 := Lib.hid hv2'
  clear hb2 hv2 hv3 hv2' hv3' kb K1 K2 G1 x0 x1 lx
  obtain ⟨y0, _⟩ := K3.out.get 0 rfl 0 rfl
  obtain ⟨y1, _⟩ := K3.out.get 0 rfl 1 rfl
  obtain ⟨x2, _⟩ := K3.out.get 2 rfl 2 rfl
  obtain ⟨x3, _⟩ := K3.out.get 2 rfl 3 rfl
  have lx := K3.out.lt 2 rfl
  have ly := K3.out.lt 0 rfl
  go_wp2_with fail
  have K4 := Lib.hid ((K3.out.push [.bool s2, .slice a2 k2 c2] 29).push [.bool s3, .slice a3 k3 c3] 29)
  have kb : Below w2.heap.size w2 ((w2.alloc (.cells #[.bool s2, .slice a2 k2 c2] 29)).alloc (.cells #[.bool s3, .slice a3 k3 c3] 29)) := Below.alloc (Below.alloc (Below.refl _ _) (Nat.le_refl _) _) (by simp) _
  refine (HP2.out _ _ _ (HD.out.keep K4.out.bel) (G2.out.keep kb)).mono ?_
  rintro e w3 ⟨v4, v5, rfl, hv4, hv5, hb3⟩
  obtain ⟨s4, a4, k4, c4, rfl, hv4'⟩ := hv4.shape
  obtain ⟨s5, a5, k5, c5, rfl, hv5'⟩ := hv5.shape
  have K5 := Lib.hid (K4.out.keep hb3)
  have N3 := Lib.hid ((N2.out.keep kb).keep hb3)
  have D3 := Lib.hid hv4'
  clear hb3 hv4 hv5 hv4' hv5' kb K3 K4 G2 N2 x2 x3 y0 y1 lx ly
  obtain ⟨y0, _⟩ := K5.out.get 1 rfl 0 rfl
  obtain ⟨y1, _⟩ := K5.out.get 1 rfl 1 rfl
  have ly := K5.out.lt 1 rfl
  go_wp2_with fail
  have K6 := Lib.hid ((K5.out.push [.bool s4, .slice a4 k4 c4] 29).push [.bool s5, .slice a5 k5 c5] 29)
  have kb : Below w3.heap.size w3 ((w3.alloc (.cells #[.bool s4, .slice a4 k4 c4] 29)).alloc (.cells #[.bool s5, .slice a5 k5 c5] 29)) := Below.alloc (Below.alloc (Below.refl _ _) (Nat.le_refl _) _) (by simp) _
  refine (HI1.out _ _ (N3.out.keep kb)).mono ?_
  rintro e w4 ⟨rfl, hb4⟩
  have K7 := Lib.hid (K6.out.keep hb4)
  have D4 := Lib.hid ((D3.out.keep kb).keep hb4)
  clear hb4 kb K5 K6 N3 D3 y0 y1 ly
  obtain ⟨y0, _⟩ := K7.out.get 1 rfl 0 rfl
  obtain ⟨y1, _⟩ := K7.out.get 1 rfl 1 rfl
  go_wp2_with fail
  refine (HI2.out _ _ D4.out).mono ?_
  rintro e w5 ⟨rfl, hb5⟩
  have K8 := Lib.hid (K7.out.keep hb5)
  clear hb5 K7 D4 y0 y1
  obtain ⟨x0, _⟩ := K8.out.get 6 rfl 0 rfl
  obtain ⟨x2, _⟩ := K8.out.get 6 rfl 2 rfl
  obtain ⟨r0, f0⟩ := K8.out.get 5 rfl 0 rfl
  obtain ⟨r1, f1⟩ := K8.out.get 5 rfl 1 rfl
  have hl : w.heap.size ≤ w.heap.size + 1 := by omega
  have HF' := HF.out
  clear HF HI1 HI2 HP1 HP2 HC HB HD
  generalize n.natAbs / Int.gcd n d = N at *
  generalize d.natAbs / Int.gcd n d = D at *
  have HFin := Lib.hid HF'
  clear HF'
  have eN : fitM N = if fitB N then (N : Int) else 0 := rfl
  have eD : fitM D = if fitB D then (D : Int) else 0 := rfl
  have gN : fitB N = decide ((N : Int) ≤ 9223372036854775807) := rfl
  have gD : fitB D = decide ((D : Int) ≤ 9223372036854775807) := rfl
  have HgN := Lib.hid gN
  have HgD := Lib.hid gD
  clear gN gD
  generalize fitM N = mN at *
  generalize fitM D = mD at *
  cases hbN : fitB N
  · rw [hbN] at HgN eN
    have hov := of_decide_eq_false HgN.out.symm
    have HE := Lib.hid (HFin.out.trans (if_pos (Or.inl (by omega))))
    clear hbN hov eN eD HFin HgN HgD
    go_wp2_with fail
    exact bodyPost_ret (v := tup 0 0 11) (by simp [results, Try.results25, go_sem, tup, r0, r1]) rfl ⟨by rw [HE.out], Below.setCell (Below.setCell K8.out.bel hl _) hl _⟩
  · rw [hbN] at HgN eN
    have h1 := of_decide_eq_true HgN.out.symm
    cases hbD : fitB D
    · rw [hbD] at HgD eD
      have hov := of_decide_eq_false HgD.out.symm
      have HE := Lib.hid (HFin.out.trans (if_pos (Or.inr (by omega))))
      clear hbN hbD hov eN eD HFin HgN HgD
      go_wp2_with fail
      exact bodyPost_ret (v := tup 0 0 11) (by simp [results, Try.results25, go_sem, tup, r0, r1]) rfl ⟨by rw [HE.out], Below.setCell (Below.setCell K8.out.bel hl _) hl _⟩
    · rw [hbD] at HgD eD
      have h2 := of_decide_eq_true HgD.out.symm
      rw [if_pos rfl] at eN eD
      subst eN; subst eD
      have HE := Lib.hid (HFin.out.trans (if_neg (by omega)))
      have hb0 := HSn.out
      have hb1 := HSd.out
      rw [← hb0, ← hb1] at HE
      clear hbN hbD HFin HgN HgD hb0 hb1 HSn HSd
      by_cases hs : (sn == sd) = true
      · have e1 : sgn (sn != sd) (N : Int) = N := by rw [show (sn != sd) = false by rw [bne, hs]; rfl]; rfl
        rw [e1] at HE
        clear e1
        go_wp2_with fail
        exact bodyPost_ret (v := tup N D 0) (by simp [results, Try.results25, go_sem, tup, r0, r1]) rfl ⟨by rw [HE.out], Below.setCell (Below.setCell K8.out.bel hl _) hl _⟩
      · have hs' : (sn == sd) = false := by simpa using hs
        have e1 : sgn (sn != sd) (N : Int) = -N := by rw [show (sn != sd) = true by rw [bne, hs']; rfl]; rfl
        rw [e1] at HE
        clear e1 hs
        go_wp2_with fail
        exact bodyPost_ret (v := tup (-N) D 0) (by simp [results, Try.results25, go_sem, tup, r0, r1]) rfl ⟨by rw [HE.out], Below.setCell (Below.setCell K8.out.bel hl _) hl _⟩

end Go.Proofs.Ytljhjjkbpckkjaa

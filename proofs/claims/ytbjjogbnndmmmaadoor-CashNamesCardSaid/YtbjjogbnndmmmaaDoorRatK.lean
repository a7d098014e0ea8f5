/-
  Package ratio: Of, Compare.
-/
import Derived.Test.YtbjjogbnndmmmaaDoorRatJ
namespace Go.Proofs.YtbjjogbnndmmmaaDoor
open Go.RowKit
set_option linter.unusedVariables false

theorem quo_bd {a g : Int} (a0 : 0 ≤ a) (g0 : 0 < g) : 0 ≤ a / g ∧ a / g ≤ a := by
  refine ⟨Int.ediv_nonneg a0 (by omega), ?_⟩
  have := Int.ediv_le_self g a0
  exact this

set_option maxHeartbeats 2000000 in
set_option maxRecDepth 100000 in
theorem ofr_any (n d : Int) (w : World) (n0 : -9223372036854775808 ≤ n) (n1 : n ≤ 9223372036854775807) (d0 : -9223372036854775808 ≤ d) (d1 : d ≤ 9223372036854775807) (hd : d ≠ 0) :
    Calls Tryd.prog 26 #[.int .i64 n, .int .i64 d] w fun e w' => e = .returned (fitV (rat n d)) ∧ Below w.heap.size w w' := by
  obtain ⟨sn0, sn1⟩ := absI_bd n n0 n1
  obtain ⟨sd0, sd1⟩ := absI_bd d d0 d1
  have hg : 0 < ((Int.gcd n d : Nat) : Int) := by have := Int.gcd_pos_of_ne_zero_right n hd; omega
  obtain ⟨hnum, hden⟩ := of_parts n d hd
  have HD := Lib.hid (fun w => gcd_abs n d ▸ divisor_any (absI n) (absI d) w sn0 (by omega) sd0 (by omega))
  have hgl : ((Int.gcd n d : Nat) : Int) ≤ 18446744073709551615 := by
    have : Int.gcd n d ≤ d.natAbs := Nat.gcd_le_right _ (by omega)
    omega
  generalize ((Int.gcd n d : Nat) : Int) = g at *
  obtain ⟨pn0, pn1⟩ := quo_bd sn0 hg
  obtain ⟨pd0, pd1⟩ := quo_bd sd0 hg
  have HSn := Lib.hid (fun w => rsize_any n w n0 n1)
  have HSd := Lib.hid (fun w => rsize_any d w d0 d1)
  have hq : fitV (rat n d) = if 9223372036854775807 < absI n / g ∨ 9223372036854775807 < absI d / g then tup 0 0 11 else tup (sgn (decide (n < 0) != decide (d < 0)) (absI n / g)) (absI d / g) 0 := by
    unfold fitV
    by_cases h : 9223372036854775807 < absI n / g ∨ 9223372036854775807 < absI d / g
    · rw [if_pos h]
      have hf : fitsR (rat n d) = false := by
        unfold fitsR; rw [hnum, hden]; apply decide_eq_false
        rintro ⟨h1, h2, h3⟩
        rcases h with h | h
        · generalize (decide (n < 0) != decide (d < 0)) = sg at h1 h2
          cases sg
          · have : absI n / g ≤ 9223372036854775807 := h2
            omega
          · have : -9223372036854775807 ≤ -(absI n / g) := h1
            omega
        · omega
      obtain ⟨e1, e2, e3⟩ := fit_out hf
      rw [e1, e2, e3]
    · rw [if_neg h]
      have hf : fitsR (rat n d) = true := by
        unfold fitsR; rw [hnum, hden]; apply decide_eq_true
        unfold sgn
        refine ⟨?_, ?_, by omega⟩
        · split <;> omega
        · split <;> omega
      obtain ⟨e1, e2, e3⟩ := fit_in hf
      rw [e1, e2, e3, hnum, hden]
  rw [hq]
  have hz : (d == 0) = false := by simpa using hd
  have gz : (g == 0) = false := by simp; omega
  have hgp : 0 < g := hg
  have w1 : IntKind.u64.wrap (absI n / g) = absI n / g := by rw [IntKind.wrap_u64]; omega
  have w2 : IntKind.u64.wrap (absI d / g) = absI d / g := by rw [IntKind.wrap_u64]; omega
  clear hnum hden hq hd
  have hB0 : ∀ o k, Below w.heap.size w ((w.alloc o).drewN k) := fun o k => ((Below.refl _ _).alloc (Nat.le_refl _) _).trans ((drewN_belowR (w.alloc o) k).mono (by simp))
  have HB0 := Lib.hid hB0
  clear hB0
  by_cases h : 9223372036854775807 < absI n / g ∨ 9223372036854775807 < absI d / g
  · rw [if_pos h]
    by_cases hx : 9223372036854775807 < absI n / g
    all_goals (
      (try have hy : 9223372036854775807 < absI d / g := by omega)
      clear h
      go_enter Tryd.func26, Tryd.ntmps26
      go_wp2_with fail
      refine (HSn.out _).mono ?_
      rintro e w' ⟨rfl, rfl⟩
      go_wp2_with fail
      refine (HSd.out _).mono ?_
      rintro e w' ⟨rfl, rfl⟩
      go_wp2_with fail
      refine (HD.out _).mono ?_
      rintro e w' ⟨rfl, k, rfl⟩
      go_wp2_with fail
      go_quiet (fail)
      go_wp2_with fail
      exact bodyPost_ret (v := tup 0 0 11) (by simp [results, Tryd.results26, go_sem, tup]) rfl ⟨rfl, by first | exact HB0.out _ _ | exact Below.setCell (Below.setCell (HB0.out _ _) (Nat.le_refl _) _) (Nat.le_refl _) _⟩)
  · rw [if_neg h]
    have h1 : absI n / g ≤ 9223372036854775807 := by omega
    have h2 : absI d / g ≤ 9223372036854775807 := by omega
    clear h
    by_cases hs : (decide (n < 0) == decide (d < 0)) = true
    · have e1 : sgn (decide (n < 0) != decide (d < 0)) (absI n / g) = absI n / g := by
        have : (decide (n < 0) != decide (d < 0)) = false := by rw [bne, hs]; rfl
        rw [this]; rfl
      rw [e1]
      clear e1
      go_enter Tryd.func26, Tryd.ntmps26
      go_wp2_with fail
      refine (HSn.out _).mono ?_
      rintro e w' ⟨rfl, rfl⟩
      go_wp2_with fail
      refine (HSd.out _).mono ?_
      rintro e w' ⟨rfl, rfl⟩
      go_wp2_with fail
      refine (HD.out _).mono ?_
      rintro e w' ⟨rfl, k, rfl⟩
      go_wp2_with fail
      go_quiet (fail)
      go_wp2_with fail
      exact bodyPost_ret (v := tup (absI n / g) (absI d / g) 0) (by simp [results, Tryd.results26, go_sem, tup]) rfl ⟨rfl, Below.alloc (Below.setCell (Below.setCell (HB0.out _ _) (Nat.le_refl _) _) (Nat.le_refl _) _) (by show w.heap.size ≤ (((w.alloc _).setCell _ _).setCell _ _).heap.size; simp) _⟩
    · have hs' : (decide (n < 0) == decide (d < 0)) = false := by simpa using hs
      have e1 : sgn (decide (n < 0) != decide (d < 0)) (absI n / g) = -(absI n / g) := by
        have : (decide (n < 0) != decide (d < 0)) = true := by rw [bne, hs']; rfl
        rw [this]; rfl
      rw [e1]
      have HO := Lib.hid (fun w => opposite_any (absI n / g) (absI d / g) w (by omega) h1)
      clear e1 hs
      go_enter Tryd.func26, Tryd.ntmps26
      go_wp2_with fail
      refine (HSn.out _).mono ?_
      rintro e w' ⟨rfl, rfl⟩
      go_wp2_with fail
      refine (HSd.out _).mono ?_
      rintro e w' ⟨rfl, rfl⟩
      go_wp2_with fail
      refine (HD.out _).mono ?_
      rintro e w' ⟨rfl, k, rfl⟩
      go_wp2_with fail
      go_quiet (fail)
      go_wp2_with fail
      refine (HO.out _).mono ?_
      rintro e w1 ⟨rfl, hb1⟩
      have r0 : w1.cell? ⟨w.heap.size, 0, none⟩ = some (.int .i64 0) := by
        rw [hb1.cell (p := ⟨w.heap.size, 0, none⟩) (by simp; omega), World.cell?_alloc_past _ _ _ (by show w.heap.size < (w.alloc _).heap.size; simp)]
        show (w.alloc _).cell? _ = _
        simp
      have r1 : w1.cell? ⟨w.heap.size, 1, none⟩ = some (.int .i64 0) := by
        rw [hb1.cell (p := ⟨w.heap.size, 1, none⟩) (by simp; omega), World.cell?_alloc_past _ _ _ (by show w.heap.size < (w.alloc _).heap.size; simp)]
        show (w.alloc _).cell? _ = _
        simp
      have f0 : w1.frozen? ⟨w.heap.size, 0, none⟩ = false := by
        rw [hb1.frozen (p := ⟨w.heap.size, 0, none⟩) (by simp; omega), World.frozen?_alloc_past _ _ _ (by show w.heap.size < (w.alloc _).heap.size; simp)]
        exact World.frozen?_alloc_at _ _ _ _ rfl
      have f1 : w1.frozen? ⟨w.heap.size, 1, none⟩ = false := by
        rw [hb1.frozen (p := ⟨w.heap.size, 1, none⟩) (by simp; omega), World.frozen?_alloc_past _ _ _ (by show w.heap.size < (w.alloc _).heap.size; simp)]
        exact World.frozen?_alloc_at _ _ _ _ rfl
      have HB1 : Hid (Below w.heap.size w w1) := Lib.hid ((Below.alloc (HB0.out _ _) (by show w.heap.size ≤ (w.alloc _).heap.size; simp) _).trans (hb1.mono (by simp; omega)))
      clear hb1
      go_wp2_with fail
      exact bodyPost_ret (v := tup (-(absI n / g)) (absI d / g) 0) (by simp [results, Tryd.results26, go_sem, tup, r0, r1]) rfl ⟨rfl, Below.setCell (Below.setCell HB1.out (Nat.le_refl _) _) (Nat.le_refl _) _⟩

end Go.Proofs.YtbjjogbnndmmmaaDoor

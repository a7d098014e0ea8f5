/-
  chattelref02: Check.
-/
import Derived.Test.YtljhjjkbpckkjaaRefQ
import Derived.Test.YtljhjjkbpckkjaaRLawsM
namespace Go.Proofs.Ytljhjjkbpckkjaa
open Go.RowKit
set_option linter.unusedVariables false

theorem int_lim900 {n : Int} (b0 : -9223372036854775808 ≤ n) (b1 : n ≤ 9223372036854775807) : n.natAbs < 2 ^ 900 := pow_big 900 (by decide) (by omega)

theorem chk_of {n d : Int} (hd : d ≠ 0) (n0 : -9223372036854775808 ≤ n) (n1 : n ≤ 9223372036854775807) (d1 : d ≤ 9223372036854775807) :
    (chkE n d = 0 ∧ rE (rat n d) = 0 ∧ rN (rat n d) = n ∧ rD (rat n d) = d) ∨ (chkE n d = 13 ∧ (rE (rat n d) ≠ 0 ∨ (rN (rat n d) == n && rD (rat n d) == d) = false)) := by
  by_cases h : chkE n d = 0
  · left
    have ok := chkE_zero h n0 n1 d1
    obtain ⟨e1, e2, e3⟩ := fit_in (fitsR_ok ok)
    exact ⟨h, e3, e1.trans ok.num, e2.trans ok.den⟩
  · right
    have h13 : chkE n d = 13 := by
      rcases chkE_cases n d with g | g | g
      · exact absurd g h
      · unfold chkE at g; rw [if_neg hd] at g; split at g <;> cases g
      · exact g
    refine ⟨h13, ?_⟩
    by_cases hf : fitsR (rat n d) = true
    · right
      obtain ⟨e1, e2, e3⟩ := fit_in hf
      by_cases g : (rN (rat n d) == n && rD (rat n d) == d) = true
      · exfalso
        rw [Bool.and_eq_true, beq_iff_eq, beq_iff_eq] at g
        have ok := okR_of hf
        rw [← e1, ← e2, g.1, g.2] at ok
        exact h (chkE_ok ok)
      · simpa using g
    · left
      rw [(fit_out (show fitsR (rat n d) = false by simpa using hf)).2.2]; decide

set_option maxHeartbeats 4000000 in
set_option maxRecDepth 100000 in
theorem rcheck_any (n d : Int) (w : World) (n0 : -9223372036854775808 ≤ n) (n1 : n ≤ 9223372036854775807) (d0 : -9223372036854775808 ≤ d) (d1 : d ≤ 9223372036854775807) :
    Calls Try.prog 23 #[.agg #[.int .i64 n, .int .i64 d]] w fun e w' => e = .returned (.int .i64 (chkE n d)) ∧ Below w.heap.size w w' := by
  by_cases hd : d = 0
  · subst hd
    have e : chkE n 0 = 12 := rfl
    rw [e]
    clear e
    go_enter Try.func23, Try.ntmps23
    go_wp2
    go_ret
    exact ⟨rfl, Below.alloc (Below.refl _ _) (Nat.le_refl _) _⟩
  · have HO := Lib.hid (fun w => rof_any n d w n0 n1 d0 d1)
    have HR := Lib.hid (fun v w h => rratio_any n d v w h hd (int_lim900 n0 n1) (int_lim900 d0 d1))
    have hc := chk_of hd n0 n1 d1
    have hz : (d == 0) = false := by simpa using hd
    unfold fitV tup at HR
    generalize chkE n d = ce at *
    generalize rN (rat n d) = x at *
    generalize rD (rat n d) = y at *
    generalize rE (rat n d) = er at *
    clear hd n0 n1 d0 d1
    have HCs := Lib.hid hc
    clear hc
    go_enter Try.func23, Try.ntmps23
    go_wp2_with fail
    refine (HO.out _).mono ?_
    rintro e w1 ⟨⟨v1, rfl, hv1⟩, hb1⟩
    have K1 := Lib.hid (((HeldV.nil w).push [.int .i64 n, .int .i64 d] 42).keep hb1)
    have Q1 := Lib.hid hv1
    clear hv1 hb1
    go_wp2_with fail
    refine (HR.out _ _ Q1.out).mono ?_
    rintro e w2 ⟨rfl, hb2⟩
    have K2 := Lib.hid (K1.out.keep hb2)
    clear hb2 K1 Q1
    obtain ⟨x0, _⟩ := K2.out.get 0 rfl 0 rfl
    obtain ⟨x1, _⟩ := K2.out.get 0 rfl 1 rfl
    have lx := K2.out.lt 0 rfl
    have K3 := Lib.hid (K2.out.push [.int .i64 x, .int .i64 y] 42)
    rcases HCs.out with ⟨e1, e2, e3, e4⟩ | ⟨e1, e2 | e2⟩
    · subst e1; subst e2; subst e3; subst e4
      go_wp2_with fail
      go_ret
      exact ⟨rfl, K3.out.bel⟩
    · subst e1
      have q1 : (er != 0) = true := by simpa using e2
      have q2 : (er == 0) = false := by simpa using e2
      clear e2
      go_wp2_with fail
      go_ret
      exact ⟨rfl, K3.out.bel⟩
    · subst e1
      by_cases g : er = 0
      · subst g
        by_cases gx : x = n
        · subst gx
          have gy : (y == d) = false := by simpa using e2
          clear e2
          go_wp2_with fail
          go_ret
          exact ⟨rfl, K3.out.bel⟩
        · have gy : (x == n) = false := by simpa using gx
          clear e2 gx
          go_wp2_with fail
          go_ret
          exact ⟨rfl, K3.out.bel⟩
      · have q1 : (er != 0) = true := by simpa using g
        have q2 : (er == 0) = false := by simpa using g
        clear g e2
        go_wp2_with fail
        go_ret
        exact ⟨rfl, K3.out.bel⟩

end Go.Proofs.Ytljhjjkbpckkjaa

/-
  For any two ratios chattellaw02.RatioSums answers true, and its arguments read behind the call as they did before. No condition.
-/
import Derived.Test.YtljhjjkbpckkjaaFrameR
import Derived.Test.YtljhjjkbpckkjaaRSumA
namespace Go.Proofs.Ytljhjjkbpckkjaa.ratioSums
open Go.ChangeShapes Go.WideShapes Go.ChangeAt Go.RowKit
open Go.ChangeMaps (open_string shut_string)
set_option linter.unusedVariables false

theorem lim4 {n : Int} (b0 : -9223372036854775808 ≤ n) (b1 : n ≤ 9223372036854775807) : n.natAbs < 2 ^ 400 := pow_big 400 (by decide) (by omega)
theorem lim8g {k m : Nat} (h : k + k ≤ m) {a b : Int} (ha : a.natAbs < 2 ^ k) (hb : b.natAbs < 2 ^ k) : (a * b).natAbs < 2 ^ m := lim_up h (mul_bits ha hb)
theorem lim9g {k m : Nat} (h : k + k + 1 ≤ m) {a b c d : Int} (ha : a.natAbs < 2 ^ k) (hb : b.natAbs < 2 ^ k) (hc : c.natAbs < 2 ^ k) (hd : d.natAbs < 2 ^ k) : (a * b + c * d).natAbs < 2 ^ m := lim_up h (add_bits (mul_bits ha hb) (mul_bits hc hd))
theorem lim8 {a b : Int} (ha : a.natAbs < 2 ^ 400) (hb : b.natAbs < 2 ^ 400) : (a * b).natAbs < 2 ^ 900 := lim8g (k := 400) (m := 900) (by decide) ha hb
theorem lim9 {a b c d : Int} (ha : a.natAbs < 2 ^ 400) (hb : b.natAbs < 2 ^ 400) (hc : c.natAbs < 2 ^ 400) (hd : d.natAbs < 2 ^ 400) : (a * b + c * d).natAbs < 2 ^ 900 := lim9g (k := 400) (m := 900) (by decide) ha hb hc hd

theorem walk (na da nb db : Int) (w : World) (wna : -9223372036854775808 ≤ na ∧ na ≤ 9223372036854775807) (wda : -9223372036854775808 ≤ da ∧ da ≤ 9223372036854775807) (wnb : -9223372036854775808 ≤ nb ∧ nb ≤ 9223372036854775807) (wdb : -9223372036854775808 ≤ db ∧ db ≤ 9223372036854775807) :
    Calls Try.prog 6 #[.agg #[.int .i64 na, .int .i64 da], .agg #[.int .i64 nb, .int .i64 db]] w fun e w' => e = .returned (.bool true) ∧ Below w.heap.size w w' := by
  have hs := fun w => addr_any na da nb db w wna.1 wna.2 wda.1 wda.2 wnb.1 wnb.2 wdb.1 wdb.2
  have hd := fun w => sub_any na da nb db w wna.1 wna.2 wda.1 wda.2 wnb.1 wnb.2 wdb.1 wdb.2
  have hp := fun w => mulr_any na da nb db w wna.1 wna.2 wda.1 wda.2 wnb.1 wnb.2 wdb.1 wdb.2
  have hq := fun (hn : nb ≠ 0) w => divr_any na da nb db w wna.1 wna.2 wda.1 wda.2 wnb.1 wnb.2 wdb.1 wdb.2 hn
  have hqz := fun (hn : nb = 0) w => divz_any na da nb db w wna.1 wna.2 wda.1 wda.2 wnb.1 wnb.2 wdb.1 wdb.2 hn
  have ca := fun w => rcheck_any na da w wna.1 wna.2 wda.1 wda.2
  have cb := fun w => rcheck_any nb db w wnb.1 wnb.2 wdb.1 wdb.2
  by_cases hE : bothE na da nb db = 0
  · obtain ⟨oa, ob⟩ := bothE_ok hE wna.1 wna.2 wda.2 wnb.1 wnb.2 wdb.2
    rw [chkE_ok oa] at ca
    rw [chkE_ok ob] at cb
    have dz : da ≠ 0 := by have := oa.d0; omega
    have ez : db ≠ 0 := by have := ob.d0; omega
    have yz : da * db ≠ 0 := Int.mul_ne_zero dz ez
    have l1 := lim4 wna.1 wna.2
    have l2 := lim4 wda.1 wda.2
    have l3 := lim4 wnb.1 wnb.2
    have l4 := lim4 wdb.1 wdb.2
    have l5 : (-nb).natAbs < 2 ^ 400 := by rw [Int.natAbs_neg]; exact l3
    simp only [opN, opD, opE, hE, if_true] at hs hd hp hq hqz
    have r1 : rat (na * db + nb * da) (da * db) = rat na da + rat nb db := (Rat.divInt_add_divInt na nb dz ez).symm
    have r2 : rat (na * db + -nb * da) (da * db) = rat na da - rat nb db := by rw [Rat.sub_eq_add_neg, ← rat_opp]; exact (Rat.divInt_add_divInt na (-nb) dz ez).symm
    have r3 : rat (na * nb) (da * db) = rat na da * rat nb db := (Rat.divInt_mul_divInt na nb).symm
    have q1 := fun v w h => rratio_any (na * db + nb * da) (da * db) v w h yz (lim9 l1 l4 l3 l2) (lim8 l2 l4)
    have q2 := fun v w h => rratio_any (na * db + -nb * da) (da * db) v w h yz (lim9 l1 l4 l5 l2) (lim8 l2 l4)
    have q3 := fun v w h => rratio_any (na * nb) (da * db) v w h yz (lim8 l1 l3) (lim8 l2 l4)
    rw [r1] at q1
    rw [r2] at q2
    rw [r3] at q3
    by_cases hn : nb = 0
    · exact sums_ok na da nb db _ _ _ _ _ _ _ _ _ 0 0 12 (-nb) _ _ _ _ _ _ w hs hd hp (hqz hn) ca cb (fun w => rof_any na da w wna.1 wna.2 wda.1 wda.2) (fun w => rof_any nb db w wnb.1 wnb.2 wdb.1 wdb.2)
        (fun v v' w h h' => raddq_any na da nb db v v' w h h' l1 l2 l3 l4) q1 (fun v w h => rnegq_any nb db v w h) (fun v v' w h h' => raddq_any na da (-nb) db v v' w h h' l1 l2 l5 l4) q2
        (fun v v' w h h' => rmulq_any na da nb db v v' w h h' l1 l2 l3 l4) q3 (fun _ => ⟨rfl, rfl, rfl⟩) (fun h => absurd hn h)
    · have zz : da * nb ≠ 0 := Int.mul_ne_zero dz hn
      have r4 : rat (na * db) (da * nb) = rat na da / rat nb db := by
        rw [Rat.div_def]; unfold rat; rw [Rat.inv_divInt]; exact (Rat.divInt_mul_divInt na db).symm
      have q4 := fun v w h => rratio_any (na * db) (da * nb) v w h zz (lim8 l1 l4) (lim8 l2 l3)
      rw [r4] at q4
      exact sums_ok na da nb db _ _ _ _ _ _ _ _ _ _ _ _ (-nb) _ _ _ _ _ _ w hs hd hp (hq hn) ca cb (fun w => rof_any na da w wna.1 wna.2 wda.1 wda.2) (fun w => rof_any nb db w wnb.1 wnb.2 wdb.1 wdb.2)
        (fun v v' w h h' => raddq_any na da nb db v v' w h h' l1 l2 l3 l4) q1 (fun v w h => rnegq_any nb db v w h) (fun v v' w h h' => raddq_any na da (-nb) db v v' w h h' l1 l2 l5 l4) q2
        (fun v v' w h h' => rmulq_any na da nb db v v' w h h' l1 l2 l3 l4) q3 (fun h => absurd h hn) (fun _ => ⟨na * db, da * nb, fun v w h => rturn_any nb db v w h, fun v v' w h h' => rmulq_any na da db nb v v' w h h' l1 l2 l4 l3, q4⟩)
  · simp only [opN, opD, opE, if_neg hE] at hs hd hp hq hqz
    have hdv : RC 30 na da nb db 0 0 (bothE na da nb db) := by
      by_cases hn : nb = 0
      · exact hqz hn
      · exact hq hn
    by_cases ha : chkE na da = 0
    · have hbe : bothE na da nb db = chkE nb db := by unfold bothE firstE; rw [if_pos ha]
      rw [ha] at ca
      rw [← hbe] at cb
      exact sums_second na da nb db _ w hE hs hd hp hdv ca cb
    · have hbe : bothE na da nb db = chkE na da := by unfold bothE firstE; rw [if_neg ha]
      rw [← hbe] at ca
      exact sums_first na da nb db _ w hE hs hd hp hdv ca

set_option maxRecDepth 100000 in
theorem lifted (os : Os) (started : os.Started) (H : Type) (enc : TypeId × Value → H) :
    ReturnsInHanded {} Try.checked os 6 .any (Rows.ratioSumsSpec.pre6 enc Try.prog Try.f6 Rows.ratioSumsRow.domain false) (Rows.ratioSumsSpec.post enc Try.prog Try.f6 false true false false) := by
  refine returnsInHanded_of_change (C := Try.checked) own started (by kernel_rfl) Try.func6
    (ChangeSpec.witness6 (enc := enc) (C := Try.checked) false ⟨#[], #[.agg #[.int .i64 0, .int .i64 0], .agg #[.int .i64 0, .int .i64 0]], []⟩ 8 (by kernel_rfl) (by kernel_rfl) (by kernel_rfl) (by kernel_rfl)) ?_
  intro W base args ds gs before hval0 hW hcnd _
  have hval : ∀ (j : Nat) t v, Try.f6.params[j]? = some t → args[j]? = some v → Value.okWide Try.prog W .any base t v := hval0
  have hW' := hW
  obtain ⟨p, q, hA0, hV, rfl, hfz, hnd⟩ := hW
  have hA : DataW.TrodAll enc Try.prog W 0 (fun _ => true) true Try.f6.params.toList args.toList ds p := hA0
  rw [Try.params6] at hA hval
  obtain ⟨v0, vs0, d0, ds0, p0, q0, hargs, rfl, rfl, h0, r0⟩ := trodAll_cons hA
  obtain ⟨v1, vs1, d1, ds1, p1, q1, rfl, rfl, rfl, h1, r1⟩ := trodAll_cons r0
  obtain ⟨rfl, rfl, rfl⟩ := trodAll_nil r1
  obtain rfl : args = #[v0, v1] := by cases args; simp_all
  obtain ⟨rfl, rfl⟩ := trodVars_none hV
  have k0 := h0
  have lt0 : ∀ x ∈ p0, x.block < W.heap.size := by obtain ⟨m, hm⟩ := k0; exact DataW.trod_lt m _ _ _ hm
  obtain ⟨x0, y0, rfl, wx0, wy0⟩ := open_ratio (hval 0 42 v0 rfl rfl) h0
  have k1 := h1
  have lt1 : ∀ x ∈ p1, x.block < W.heap.size := by obtain ⟨m, hm⟩ := k1; exact DataW.trod_lt m _ _ _ hm
  obtain ⟨x1, y1, rfl, wx1, wy1⟩ := open_ratio (hval 1 42 v1 rfl rfl) h1
  clear hA0 hval0
  refine (walk x0 y0 x1 y1 W wx0 wy0 wx1 wy1).mono fun e W' ⟨he, bel⟩ => ?_
  subst he
  exact ⟨_, rfl, _, _, _, [], _, [], hW', trodAll_mk1 (shut_bool Try.underlying4 _), (trodAll_cons_mk (Below.trod laidOut (by kernel_rfl) (of_decide_eq_true (by kernel_rfl)) k0 bel lt0) (trodAll_cons_mk (Below.trod laidOut (by kernel_rfl) (of_decide_eq_true (by kernel_rfl)) k1 bel lt1) trodAll_mk0)), rfl, bel.frame _, fun h => by cases h⟩

theorem over : Rows.ratioSumsRow.holds Try.pinned (OpenSpec.ofChange Rows.ratioSumsSpec) :=
  OpenClaim.holds_of_wide 6 Try.f6 rfl rfl rfl rfl rfl rfl rfl ⟨rfl, rfl, rfl, rfl, rfl⟩ rfl rfl rfl rfl rfl (by kernel_rfl) Try.func6 (by kernel_rfl)
    (of_decide_eq_true (by kernel_rfl)) (by unfold Func.isWrapper; first | (rw [if_pos (by decide +kernel)]; kernel_rfl) | (rw [if_neg (by decide +kernel)]; exact ⟨rfl, rfl⟩))
    (fun os started H enc _ => lifted os started H enc)

/-- The statement. -/
theorem proved : Rows.RatioSumsSaid := over
#print axioms proved
end Go.Proofs.Ytljhjjkbpckkjaa.ratioSums

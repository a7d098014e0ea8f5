/-
  For any two ratios chattellaw02.RatioOrders answers true, and its arguments read behind the call as they did before. No condition.
-/
import Derived.Test.YtljhjjkbpckkjaaFrameR
import Derived.Test.YtljhjjkbpckkjaaROrd
import Derived.Test.YtljhjjkbpckkjaaRatN
namespace Go.Proofs.Ytljhjjkbpckkjaa.ratioOrders
open Go.ChangeShapes Go.WideShapes Go.ChangeAt Go.RowKit
open Go.ChangeMaps (open_string shut_string)
set_option linter.unusedVariables false

theorem lim4 {n : Int} (b0 : -9223372036854775808 ≤ n) (b1 : n ≤ 9223372036854775807) : n.natAbs < 2 ^ 400 := pow_big 400 (by decide) (by omega)

theorem walk (na da nb db : Int) (w : World) (wna : -9223372036854775808 ≤ na ∧ na ≤ 9223372036854775807) (wda : -9223372036854775808 ≤ da ∧ da ≤ 9223372036854775807) (wnb : -9223372036854775808 ≤ nb ∧ nb ≤ 9223372036854775807) (wdb : -9223372036854775808 ≤ db ∧ db ≤ 9223372036854775807) :
    Calls Try.prog 7 #[.agg #[.int .i64 na, .int .i64 da], .agg #[.int .i64 nb, .int .i64 db]] w fun e w' => e = .returned (.bool true) ∧ Below w.heap.size w w' := by
  have ia : In na ∧ In da := ⟨⟨wna.1, wna.2⟩, ⟨wda.1, wda.2⟩⟩
  have ib : In nb ∧ In db := ⟨⟨wnb.1, wnb.2⟩, ⟨wdb.1, wdb.2⟩⟩
  have hcmp := fun w => compare_anyR na da nb db w wna.1 wna.2 wda.1 wda.2 wnb.1 wnb.2 wdb.1 wdb.2
  have hneg := fun w => negr_any na da w wna.1 wna.2 wda.1 wda.2
  have hrnd := fun w => round_any na da w wna.1 wna.2 wda.1 wda.2
  have hchk := fun w => rcheck_any na da w wna.1 wna.2 wda.1 wda.2
  have hchb := fun w => rcheck_any nb db w wnb.1 wnb.2 wdb.1 wdb.2
  by_cases ha : chkE na da = 0
  · have oa := chkE_zero ha wna.1 wna.2 wda.2
    simp only [ha] at hneg hrnd hchk
    have hin := md_one_in na da oa.d0 wna.1 wna.2
    have hfz := (inR_iff _).1 hin
    have hbe : bothE na da nb db = chkE nb db := by unfold bothE firstE; rw [if_pos ha]
    refine ord_ok na da nb db _ _ (md na 1 da) (chkE nb db) w ⟨hcmp, hneg, hrnd, hchk⟩ oa.n0 oa.n1 (fun w => of_any na w wna.1 wna.2) (fun w => of_any da w wda.1 wda.2) ?_ ?_ hchb ?_ ?_
    · intro v v' w h h'
      have hn := near_any na da v v' w h h' (by have := oa.d0; omega) (int_lim900 wna.1 wna.2) (int_lim900 wda.1 wda.2)
      have hm := near_md na 1 da (by have := oa.d0; omega)
      rw [Int.mul_one] at hm
      rw [hm] at hn
      exact hn
    · intro v w h
      refine (rint_any (md na 1 da) v w h (int_lim hfz.1 hfz.2)).mono ?_
      rintro e w' ⟨h1, _, hb⟩
      exact ⟨h1 ⟨hfz.1, hfz.2⟩, hb⟩
    · intro h
      rw [hbe, if_neg h]; exact ⟨rfl, rfl⟩
    · intro h
      rw [hbe]
      refine ⟨h, fun w => rof_any na da w wna.1 wna.2 wda.1 wda.2, fun w => rof_any nb db w wnb.1 wnb.2 wdb.1 wdb.2, fun v v' w h1 h2 => ?_⟩
      rw [if_pos h]
      exact rordq_any na da nb db v v' w h1 h2 (lim4 wna.1 wna.2) (lim4 wda.1 wda.2) (lim4 wnb.1 wnb.2) (lim4 wdb.1 wdb.2)
  · have hbe : bothE na da nb db = chkE na da := by unfold bothE firstE; rw [if_neg ha]
    simp only [if_neg ha] at hneg hrnd
    rw [hbe] at hcmp
    simp only [if_neg ha] at hcmp
    exact ord_err na da nb db _ w ⟨hcmp, hneg, hrnd, hchk⟩ ha

set_option maxRecDepth 100000 in
theorem lifted (os : Os) (started : os.Started) (H : Type) (enc : TypeId × Value → H) :
    ReturnsInHanded {} Try.checked os 7 .any (Rows.ratioOrdersSpec.pre6 enc Try.prog Try.f7 Rows.ratioOrdersRow.domain false) (Rows.ratioOrdersSpec.post enc Try.prog Try.f7 false true false false) := by
  refine returnsInHanded_of_change (C := Try.checked) own started (by kernel_rfl) Try.func7
    (ChangeSpec.witness6 (enc := enc) (C := Try.checked) false ⟨#[], #[.agg #[.int .i64 0, .int .i64 0], .agg #[.int .i64 0, .int .i64 0]], []⟩ 8 (by kernel_rfl) (by kernel_rfl) (by kernel_rfl) (by kernel_rfl)) ?_
  intro W base args ds gs before hval0 hW hcnd _
  have hval : ∀ (j : Nat) t v, Try.f7.params[j]? = some t → args[j]? = some v → Value.okWide Try.prog W .any base t v := hval0
  have hW' := hW
  obtain ⟨p, q, hA0, hV, rfl, hfz, hnd⟩ := hW
  have hA : DataW.TrodAll enc Try.prog W 0 (fun _ => true) true Try.f7.params.toList args.toList ds p := hA0
  rw [Try.params7] at hA hval
  obtain ⟨v0, vs0, d0, ds0, p0, q0, hargs, rfl, rfl, h0, r0⟩ := trodAll_cons hA
  obtain ⟨v1, vs1, d1, ds1, p1, q1, rfl, rfl, rfl, h1, r1⟩ := trodAll_cons r0
  obtain ⟨rfl, rfl, rfl⟩ := trodAll_nil r1
  obtain rfl : args = #[v0, v1] := by cases args; simp_all
  obtain ⟨rfl, rfl⟩ := trodVars_none hV
  have k0 := h0
  have lt0 : ∀ x ∈ p0, x.block < W.heap.size := by obtain ⟨m, hm⟩ := k0; exact DataW.trod_lt m _ _ _ hm
  obtain ⟨x0, y0, rfl, wx0, wy0⟩ := open_ratio (hval 0 42 v0 rfl rfl) h0
  have k1 := h1
  have lt1 : ∀ x ∈ p1, x.block < W.heap.size := by obtain ⟨m, hm⟩ := k1; exact DataW.trod_lt m _ _ _ hm
  obtain ⟨x1, y1, rfl, wx1, wy1⟩ := open_ratio (hval 1 42 v1 rfl rfl) h1
  clear hA0 hval0
  refine (walk x0 y0 x1 y1 W wx0 wy0 wx1 wy1).mono fun e W' ⟨he, bel⟩ => ?_
  subst he
  exact ⟨_, rfl, _, _, _, [], _, [], hW', trodAll_mk1 (shut_bool Try.underlying4 _), (trodAll_cons_mk (Below.trod laidOut (by kernel_rfl) (of_decide_eq_true (by kernel_rfl)) k0 bel lt0) (trodAll_cons_mk (Below.trod laidOut (by kernel_rfl) (of_decide_eq_true (by kernel_rfl)) k1 bel lt1) trodAll_mk0)), rfl, bel.frame _, fun h => by cases h⟩

theorem over : Rows.ratioOrdersRow.holds Try.pinned (OpenSpec.ofChange Rows.ratioOrdersSpec) :=
  OpenClaim.holds_of_wide 7 Try.f7 rfl rfl rfl rfl rfl rfl rfl ⟨rfl, rfl, rfl, rfl, rfl⟩ rfl rfl rfl rfl rfl (by kernel_rfl) Try.func7 (by kernel_rfl)
    (of_decide_eq_true (by kernel_rfl)) (by unfold Func.isWrapper; first | (rw [if_pos (by decide +kernel)]; kernel_rfl) | (rw [if_neg (by decide +kernel)]; exact ⟨rfl, rfl⟩))
    (fun os started H enc _ => lifted os started H enc)

/-- The statement. -/
theorem proved : Rows.RatioOrdersSaid := over
#print axioms proved
end Go.Proofs.Ytljhjjkbpckkjaa.ratioOrders

/-
  For all four numbers chattellaw01.AmountScales answers true, and its arguments read behind the call as they did before. No condition.
-/
import Derived.Test.YtaclniiagfpldaaFrame
import Derived.Test.YtaclniiagfpldaaScales
namespace Go.Proofs.Ytaclniiagfpldaa.amountScales
open Go.ChangeShapes Go.WideShapes Go.ChangeAt Go.RowKit
open Go.ChangeMaps (open_string shut_string)
set_option linter.unusedVariables false

theorem walk (a b : Int) (c y : Int) (w : World) (wa : -9223372036854775808 ≤ a ∧ a ≤ 9223372036854775807) (wb : -9223372036854775808 ≤ b ∧ b ≤ 9223372036854775807)
    (wc : -9223372036854775808 ≤ c ∧ c ≤ 9223372036854775807) (wy : -9223372036854775808 ≤ y ∧ y ≤ 9223372036854775807) :
    Calls Try.prog 8 #[.int .i64 a, .int .i64 b, .agg #[.int .i64 c, .int .i64 y]] w fun e w' => e = .returned (.bool true) ∧ Below w.heap.size w w' := by
  have mdz : ∀ (p q : Int) w, Calls Try.prog 20 #[.int .i64 p, .int .i64 q, .int .i64 0] w fun r w' => r = .returned (.tuple #[.int .i64 0, .int .i64 12]) ∧ ∃ m, w' = w.drewN m :=
    fun p q w => (muldiv_zero p q w).mono fun e w' ⟨h1, h2⟩ => ⟨h1, 0, by rw [← h2]; rfl⟩
  have hm := fitted (-a)
  have h1 : ∃ n e, ((b ≠ 0 ∧ n = a ∧ e = 0) ∨ (b = 0 ∧ e = 12)) ∧ ∀ w, Calls Try.prog 20 #[.int .i64 a, .int .i64 b, .int .i64 b] w fun r w' => r = .returned (.tuple #[.int .i64 n, .int .i64 e]) ∧ ∃ m, w' = w.drewN m := by
    by_cases hb : b = 0
    · subst hb; exact ⟨0, 12, Or.inr ⟨rfl, rfl⟩, mdz a 0⟩
    · refine ⟨a, 0, Or.inl ⟨hb, rfl, rfl⟩, fun w => ?_⟩
      have := muldiv_any a b b w wa.1 wa.2 wb.1 wb.2 wb.1 wb.2 hb
      rw [md_self a b hb, fitN_in ((inR_iff a).2 wa), fitE_in ((inR_iff a).2 wa)] at this
      exact this
  obtain ⟨n, e, hn, h1⟩ := h1
  have h24 : ∃ X F Y Z, (fitE (-a) = 0 → F = 0 → Z = 0 → X + Y = 0) ∧ (∀ w, Calls Try.prog 20 #[.int .i64 a, .int .i64 b, .int .i64 c] w fun r w' => r = .returned (.tuple #[.int .i64 X, .int .i64 F]) ∧ ∃ m, w' = w.drewN m) ∧
      (∀ w, Calls Try.prog 20 #[.int .i64 (fitN (-a)), .int .i64 b, .int .i64 c] w fun r w' => r = .returned (.tuple #[.int .i64 Y, .int .i64 Z]) ∧ ∃ m, w' = w.drewN m) := by
    by_cases hc : c = 0
    · subst hc; exact ⟨0, 12, 0, 12, (fun _ h => by cases h), mdz a b, mdz _ b⟩
    · refine ⟨_, _, _, _, ?_, fun w => muldiv_any a b c w wa.1 wa.2 wb.1 wb.2 wc.1 wc.2 hc, fun w => muldiv_any (fitN (-a)) b c w hm.1 hm.2 wb.1 wb.2 wc.1 wc.2 hc⟩
      intro g f z
      have i1 := fitE_zero g
      have i2 := fitE_zero f
      have i3 := fitE_zero z
      rw [fitN_in i2, fitN_in i3, fitN_in i1, md_neg a b c hc]; omega
  obtain ⟨X, F, Y, Z, hz, h2, h4⟩ := h24
  refine scales_core a b c y n e X F (fitN (-a)) (fitE (-a)) Y Z w h1 h2 (fun w => neg_any a w wa.1 wa.2) h4 hn hz ?_
  intro hc
  have e1 := md_one_in a c (by omega) wa.1 wa.2
  have e2 := md_one_in y c (by omega) wy.1 wy.2
  refine ⟨md a 1 c, md y 1 c, fun w => ?_, fun w => ?_, fun h => md_one_mono a y c (by omega) h⟩
  · have := muldiv_any a 1 c w wa.1 wa.2 (by decide) (by decide) wc.1 wc.2 (by omega)
    rw [fitN_in e1, fitE_in e1] at this; exact this
  · have := muldiv_any y 1 c w wy.1 wy.2 (by decide) (by decide) wc.1 wc.2 (by omega)
    rw [fitN_in e2, fitE_in e2] at this; exact this

set_option maxRecDepth 100000 in
theorem lifted (os : Os) (started : os.Started) (H : Type) (enc : TypeId × Value → H) :
    ReturnsInHanded {} Try.checked os 8 .any (Rows.amountScalesSpec.pre6 enc Try.prog Try.f8 Rows.amountScalesRow.domain false) (Rows.amountScalesSpec.post enc Try.prog Try.f8 false true false false) := by
  refine returnsInHanded_of_change (C := Try.checked) own started (by kernel_rfl) Try.func8
    (ChangeSpec.witness6 (enc := enc) (C := Try.checked) false ⟨#[], #[.int .i64 0, .int .i64 0, .agg #[.int .i64 0, .int .i64 0]], []⟩ 8 (by kernel_rfl) (by kernel_rfl) (by kernel_rfl) (by kernel_rfl)) ?_
  intro W base args ds gs before hval0 hW hcnd _
  have hval : ∀ (j : Nat) t v, Try.f8.params[j]? = some t → args[j]? = some v → Value.okWide Try.prog W .any base t v := hval0
  have hW' := hW
  obtain ⟨p, q, hA0, hV, rfl, hfz, hnd⟩ := hW
  have hA : DataW.TrodAll enc Try.prog W 0 (fun _ => true) true Try.f8.params.toList args.toList ds p := hA0
  rw [Try.params8] at hA hval
  obtain ⟨v0, vs0, d0, ds0, p0, q0, hargs, rfl, rfl, h0, r0⟩ := trodAll_cons hA
  obtain ⟨v1, vs1, d1, ds1, p1, q1, rfl, rfl, rfl, h1, r1⟩ := trodAll_cons r0
  obtain ⟨v2, vs2, d2, ds2, p2, q2, rfl, rfl, rfl, h2, r2⟩ := trodAll_cons r1
  obtain ⟨rfl, rfl, rfl⟩ := trodAll_nil r2
  obtain rfl : args = #[v0, v1, v2] := by cases args; simp_all
  obtain ⟨rfl, rfl⟩ := trodVars_none hV
  obtain ⟨a0, rfl, rfl, rfl, w0⟩ := open_int Try.underlying3 (hval 0 3 v0 rfl rfl) h0
  obtain ⟨a1, rfl, rfl, rfl, w1⟩ := open_int Try.underlying3 (hval 1 3 v1 rfl rfl) h1
  have k2 := h2
  have lt2 : ∀ x ∈ p2, x.block < W.heap.size := by obtain ⟨m, hm⟩ := k2; exact DataW.trod_lt m _ _ _ hm
  obtain ⟨x2, y2, rfl, wx2, wy2⟩ := open_two (hval 2 46 v2 rfl rfl) h2
  clear hA0 hval0
  refine (walk a0 a1 x2 y2 W (wf_bd w0) (wf_bd w1) wx2 wy2).mono fun e W' ⟨he, bel⟩ => ?_
  subst he
  exact ⟨_, rfl, _, _, _, [], _, [], hW', trodAll_mk1 (shut_bool Try.underlying4 _), (trodAll_cons_mk (shut_int Try.underlying3 w0) (trodAll_cons_mk (shut_int Try.underlying3 w1) (trodAll_cons_mk (Below.trod laidOut (by kernel_rfl) (of_decide_eq_true (by kernel_rfl)) k2 bel lt2) trodAll_mk0))), rfl, bel.frame _, fun h => by cases h⟩

theorem over : Rows.amountScalesRow.holds Try.pinned (OpenSpec.ofChange Rows.amountScalesSpec) :=
  OpenClaim.holds_of_wide 8 Try.f8 rfl rfl rfl rfl rfl rfl rfl ⟨rfl, rfl, rfl, rfl, rfl⟩ rfl rfl rfl rfl rfl (by kernel_rfl) Try.func8 (by kernel_rfl)
    (of_decide_eq_true (by kernel_rfl)) (by unfold Func.isWrapper; first | (rw [if_pos (by decide +kernel)]; kernel_rfl) | (rw [if_neg (by decide +kernel)]; exact ⟨rfl, rfl⟩))
    (fun os started H enc _ => lifted os started H enc)

/-- The statement. -/
theorem proved : Rows.AmountScalesSaid := over
#print axioms proved
end Go.Proofs.Ytaclniiagfpldaa.amountScales

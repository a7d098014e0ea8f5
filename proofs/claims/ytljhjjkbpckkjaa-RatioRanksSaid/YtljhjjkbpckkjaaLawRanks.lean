/-
  For any three ratios chattellaw02.RatioRanks answers true, and its arguments read behind the call as they did before. No condition.
-/
import Derived.Test.YtljhjjkbpckkjaaFrameR
import Derived.Test.YtljhjjkbpckkjaaRRanksA
import Derived.Test.YtljhjjkbpckkjaaRRanksM
namespace Go.Proofs.Ytljhjjkbpckkjaa.ratioRanks
open Go.ChangeShapes Go.WideShapes Go.ChangeAt Go.RowKit
open Go.ChangeMaps (open_string shut_string)
set_option linter.unusedVariables false

theorem walk (na da nb db nc dc : Int) (w : World) (wna : -9223372036854775808 ≤ na ∧ na ≤ 9223372036854775807) (wda : -9223372036854775808 ≤ da ∧ da ≤ 9223372036854775807) (wnb : -9223372036854775808 ≤ nb ∧ nb ≤ 9223372036854775807) (wdb : -9223372036854775808 ≤ db ∧ db ≤ 9223372036854775807) (wnc : -9223372036854775808 ≤ nc ∧ nc ≤ 9223372036854775807) (wdc : -9223372036854775808 ≤ dc ∧ dc ≤ 9223372036854775807) :
    Calls Try.prog 9 #[.agg #[.int .i64 na, .int .i64 da], .agg #[.int .i64 nb, .int .i64 db], .agg #[.int .i64 nc, .int .i64 dc]] w fun e w' => e = .returned (.bool true) ∧ Below w.heap.size w w' := by
  have ia : In na ∧ In da := ⟨⟨wna.1, wna.2⟩, ⟨wda.1, wda.2⟩⟩
  have ib : In nb ∧ In db := ⟨⟨wnb.1, wnb.2⟩, ⟨wdb.1, wdb.2⟩⟩
  have ic : In nc ∧ In dc := ⟨⟨wnc.1, wnc.2⟩, ⟨wdc.1, wdc.2⟩⟩
  have add := fun {n1 d1 n2 d2 : Int} (h1 : In n1 ∧ In d1) (h2 : In n2 ∧ In d2) => (fun w => addr_any n1 d1 n2 d2 w h1.1.lo h1.1.hi h1.2.lo h1.2.hi h2.1.lo h2.1.hi h2.2.lo h2.2.hi : RC 27 n1 d1 n2 d2 _ _ _)
  have sub := fun {n1 d1 n2 d2 : Int} (h1 : In n1 ∧ In d1) (h2 : In n2 ∧ In d2) => (fun w => sub_any n1 d1 n2 d2 w h1.1.lo h1.1.hi h1.2.lo h1.2.hi h2.1.lo h2.1.hi h2.2.lo h2.2.hi : RC 28 n1 d1 n2 d2 _ _ _)
  have cmp := fun {n1 d1 n2 d2 : Int} (h1 : In n1 ∧ In d1) (h2 : In n2 ∧ In d2) => (fun w => compare_anyR n1 d1 n2 d2 w h1.1.lo h1.1.hi h1.2.lo h1.2.hi h2.1.lo h2.1.hi h2.2.lo h2.2.hi : CM n1 d1 n2 d2 _ _)
  have rnd := fun {n d : Int} (h : In n ∧ In d) => (fun w => round_any n d w h.1.lo h.1.hi h.2.lo h.2.hi : RD n d _ _)
  by_cases hE : bothE na da nb db = 0
  · obtain ⟨oa, ob⟩ := both_ok2 hE ia.1 ia.2 ib.1 ib.2
    have hE' := bothE_zero ob oa
    have cab := cmp ia ib
    have cba := cmp ib ia
    rw [if_pos hE, hE] at cab
    rw [if_pos hE', hE', cmp_turn na da nb db] at cba
    have ra := rnd ia
    have rb := rnd ib
    rw [if_pos (chkE_ok oa), chkE_ok oa] at ra
    rw [if_pos (chkE_ok ob), chkE_ok ob] at rb
    have iP := op_bd (bothE na da nc dc) (rat na da + rat nc dc)
    have iQ := op_bd (bothE nb db nc dc) (rat nb db + rat nc dc)
    rcases cmp_cases na da nb db with h | h | h
    · have hlt := (cmp_less oa ob).1 h
      rw [h] at cab cba
      refine ranks_less na da nb db nc dc _ _ _ _ _ _ _ _ _ _ _ w cab cba ra rb (md_order oa ob hlt) (sub ia ib) ?_ (add ia ic) (add ib ic) ?_
      · intro hD; rw [(op_zero hD).2.2.1]; exact sub_neg hlt
      · intro hP hQ
        obtain ⟨oP, eP⟩ := op_rat hP
        obtain ⟨oQ, eQ⟩ := op_rat hQ
        have hc := cmp iP iQ
        rw [if_pos (bothE_zero oP oQ), bothE_zero oP oQ, (cmp_less oP oQ).2 (by rw [eP, eQ]; exact Rat.add_lt_add_right.2 hlt)] at hc
        exact hc
    · have heq := (cmp_same oa ob).1 h
      obtain ⟨rfl, rfl⟩ := oa.inj ob heq
      rw [h] at cab cba
      refine ranks_same na da nc dc _ _ _ _ _ _ _ _ _ _ w cab cba ra ra (sub ia ia) ?_ (add ia ic) (add ia ic) ?_
      · intro hD; rw [(op_zero hD).2.2.1, Rat.sub_self]; rfl
      · intro hP hQ
        obtain ⟨oP, eP⟩ := op_rat hP
        have hc := cmp iP iP
        rw [if_pos (bothE_zero oP oP), bothE_zero oP oP, (cmp_same oP oP).2 rfl] at hc
        exact hc
    · have hlt := (cmp_more oa ob).1 h
      rw [h] at cab cba
      refine ranks_more na da nb db nc dc _ _ _ _ _ _ _ _ _ _ _ w cab cba ra rb (md_order ob oa hlt) (sub ia ib) ?_ (add ia ic) (add ib ic) ?_
      · intro hD; rw [(op_zero hD).2.2.1]; exact sub_pos hlt
      · intro hP hQ
        obtain ⟨oP, eP⟩ := op_rat hP
        obtain ⟨oQ, eQ⟩ := op_rat hQ
        have hc := cmp iP iQ
        rw [if_pos (bothE_zero oP oQ), bothE_zero oP oQ, (cmp_more oP oQ).2 (by rw [eP, eQ]; exact Rat.add_lt_add_right.2 hlt)] at hc
        exact hc
  · have hE' : bothE nb db na da ≠ 0 := fun h => by
      obtain ⟨ob, oa⟩ := both_ok2 h ib.1 ib.2 ia.1 ia.2
      exact hE (bothE_zero oa ob)
    have cab := cmp ia ib
    have cba := cmp ib ia
    rw [if_neg hE] at cab
    rw [if_neg hE'] at cba
    exact ranks_err na da nb db nc dc _ _ w hE hE' cab cba

set_option maxRecDepth 100000 in
theorem lifted (os : Os) (started : os.Started) (H : Type) (enc : TypeId × Value → H) :
    ReturnsInHanded {} Try.checked os 9 .any (Rows.ratioRanksSpec.pre6 enc Try.prog Try.f9 Rows.ratioRanksRow.domain false) (Rows.ratioRanksSpec.post enc Try.prog Try.f9 false true false false) := by
  refine returnsInHanded_of_change (C := Try.checked) own started (by kernel_rfl) Try.func9
    (ChangeSpec.witness6 (enc := enc) (C := Try.checked) false ⟨#[], #[.agg #[.int .i64 0, .int .i64 0], .agg #[.int .i64 0, .int .i64 0], .agg #[.int .i64 0, .int .i64 0]], []⟩ 8 (by kernel_rfl) (by kernel_rfl) (by kernel_rfl) (by kernel_rfl)) ?_
  intro W base args ds gs before hval0 hW hcnd _
  have hval : ∀ (j : Nat) t v, Try.f9.params[j]? = some t → args[j]? = some v → Value.okWide Try.prog W .any base t v := hval0
  have hW' := hW
  obtain ⟨p, q, hA0, hV, rfl, hfz, hnd⟩ := hW
  have hA : DataW.TrodAll enc Try.prog W 0 (fun _ => true) true Try.f9.params.toList args.toList ds p := hA0
  rw [Try.params9] at hA hval
  obtain ⟨v0, vs0, d0, ds0, p0, q0, hargs, rfl, rfl, h0, r0⟩ := trodAll_cons hA
  obtain ⟨v1, vs1, d1, ds1, p1, q1, rfl, rfl, rfl, h1, r1⟩ := trodAll_cons r0
  obtain ⟨v2, vs2, d2, ds2, p2, q2, rfl, rfl, rfl, h2, r2⟩ := trodAll_cons r1
  obtain ⟨rfl, rfl, rfl⟩ := trodAll_nil r2
  obtain rfl : args = #[v0, v1, v2] := by cases args; simp_all
  obtain ⟨rfl, rfl⟩ := trodVars_none hV
  have k0 := h0
  have lt0 : ∀ x ∈ p0, x.block < W.heap.size := by obtain ⟨m, hm⟩ := k0; exact DataW.trod_lt m _ _ _ hm
  obtain ⟨x0, y0, rfl, wx0, wy0⟩ := open_ratio (hval 0 42 v0 rfl rfl) h0
  have k1 := h1
  have lt1 : ∀ x ∈ p1, x.block < W.heap.size := by obtain ⟨m, hm⟩ := k1; exact DataW.trod_lt m _ _ _ hm
  obtain ⟨x1, y1, rfl, wx1, wy1⟩ := open_ratio (hval 1 42 v1 rfl rfl) h1
  have k2 := h2
  have lt2 : ∀ x ∈ p2, x.block < W.heap.size := by obtain ⟨m, hm⟩ := k2; exact DataW.trod_lt m _ _ _ hm
  obtain ⟨x2, y2, rfl, wx2, wy2⟩ := open_ratio (hval 2 42 v2 rfl rfl) h2
  clear hA0 hval0
  refine (walk x0 y0 x1 y1 x2 y2 W wx0 wy0 wx1 wy1 wx2 wy2).mono fun e W' ⟨he, bel⟩ => ?_
  subst he
  exact ⟨_, rfl, _, _, _, [], _, [], hW', trodAll_mk1 (shut_bool Try.underlying4 _), (trodAll_cons_mk (Below.trod laidOut (by kernel_rfl) (of_decide_eq_true (by kernel_rfl)) k0 bel lt0) (trodAll_cons_mk (Below.trod laidOut (by kernel_rfl) (of_decide_eq_true (by kernel_rfl)) k1 bel lt1) (trodAll_cons_mk (Below.trod laidOut (by kernel_rfl) (of_decide_eq_true (by kernel_rfl)) k2 bel lt2) trodAll_mk0))), rfl, bel.frame _, fun h => by cases h⟩

theorem over : Rows.ratioRanksRow.holds Try.pinned (OpenSpec.ofChange Rows.ratioRanksSpec) :=
  OpenClaim.holds_of_wide 9 Try.f9 rfl rfl rfl rfl rfl rfl rfl ⟨rfl, rfl, rfl, rfl, rfl⟩ rfl rfl rfl rfl rfl (by kernel_rfl) Try.func9 (by kernel_rfl)
    (of_decide_eq_true (by kernel_rfl)) (by unfold Func.isWrapper; first | (rw [if_pos (by decide +kernel)]; kernel_rfl) | (rw [if_neg (by decide +kernel)]; exact ⟨rfl, rfl⟩))
    (fun os started H enc _ => lifted os started H enc)

/-- The statement. -/
theorem proved : Rows.RatioRanksSaid := over
#print axioms proved
end Go.Proofs.Ytljhjjkbpckkjaa.ratioRanks

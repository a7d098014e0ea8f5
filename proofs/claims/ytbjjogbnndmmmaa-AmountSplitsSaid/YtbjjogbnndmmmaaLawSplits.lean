/-
  For every total and all weights chattellaw01.AmountSplits answers true, and its arguments read behind the call as they did before. No condition.
-/
import Derived.Test.YtbjjogbnndmmmaaFrame
import Derived.Test.YtbjjogbnndmmmaaSplitsV
namespace Go.Proofs.Ytbjjogbnndmmmaa.amountSplits
open Go.ChangeShapes Go.WideShapes Go.ChangeAt Go.RowKit
open Go.ChangeMaps (open_string shut_string)
set_option linter.unusedVariables false

theorem walk (a0 : Int) (a1 : Option Addr) (len1 cap1 : Nat) (z1 : List Int) (w : World) (w0 : (Lit.int .i64 a0).wf = true) (w1 : IsRow .i64 w a1 len1 cap1 z1) :
    Calls Try.prog 3 #[.int .i64 a0, .slice a1 len1 cap1] w fun e w' => e = .returned (.bool true) ∧ Below w.heap.size w w' := by
  obtain ⟨hT0, hT1⟩ := wf_bd w0
  obtain ⟨hmax, hp⟩ := w1.parts
  by_cases c70 : 70 < len1
  · exact splits_long a0 a1 len1 cap1 w c70 (by omega)
  · by_cases c64 : len1 < 1 ∨ 64 < len1
    · exact splits_arg a0 a1 len1 cap1 w c64 (by omega) (split_bad a0 _ 1 w (weigh_arg a1 len1 cap1 w c64 (by omega)) (by decide))
    · rcases hp with h0 | ⟨b, o, rfl, hb, l, rfl, hr, hi⟩
      · omega
      · by_cases cn : ∃ t, t < l.length ∧ l.getD t 0 < 0
        · exact splits_neg a0 l b o cap1 w hr (by omega) (by omega) cn (split_bad a0 _ 10 w (weigh_neg l b o cap1 w hr (by omega) (by omega) cn) (by decide))
        · have hpos : ∀ t, t < l.length → 0 ≤ l.getD t 0 := fun t ht => by
            rcases Int.lt_or_le (l.getD t 0) 0 with g | g
            · exact absurd ⟨t, ht, g⟩ cn
            · exact g
          have hnn := NonNeg.of hpos
          have hwg := weigh_sum l b o cap1 w hr hi (by omega) (by omega) hpos
          have hs0 : 0 ≤ sumL l := sumK_nonneg hnn _
          by_cases co : inR (sumL l) = true
          · rw [fitN_in co, fitE_in co] at hwg
            have hs1 := ((inR_iff _).1 co).2
            have hfit : FitsZ (sumL l) := (inR_iff _).1 co
            by_cases cm : a0 = -9223372036854775808
            · subst cm
              exact splits_bad _ l b o cap1 11 w hb hr hi (by omega) (by omega) hpos hT0 hT1 (Or.inr (Or.inl ⟨hfit, rfl, rfl⟩)) (split_min _ _ w hwg)
            · by_cases cz : sumL l = 0
              · rw [cz] at hwg
                exact splits_bad a0 l b o cap1 12 w hb hr hi (by omega) (by omega) hpos hT0 hT1 (Or.inr (Or.inr ⟨cz, cm, rfl⟩)) (split_zero a0 _ w hwg cm)
              · exact splits_ok a0 l b o cap1 w hb hr hi hnn (by omega) (by omega) (by omega) hs1 (by omega) hT1
          · have co' : inR (sumL l) = false := by simpa using co
            rw [fitN_out co', fitE_out co'] at hwg
            exact splits_bad a0 l b o cap1 11 w hb hr hi (by omega) (by omega) hpos hT0 hT1 (Or.inl ⟨fun h => co ((inR_iff _).2 h), rfl⟩) (split_bad a0 _ 11 w hwg (by decide))

set_option maxRecDepth 100000 in
theorem lifted (os : Os) (started : os.Started) (H : Type) (enc : TypeId × Value → H) :
    ReturnsInHanded {} Try.checked os 3 .any (Rows.amountSplitsSpec.pre6 enc Try.prog Try.f3 Rows.amountSplitsRow.domain false) (Rows.amountSplitsSpec.post enc Try.prog Try.f3 false true false false) := by
  refine returnsInHanded_of_change (C := Try.checked) own started (by kernel_rfl) Try.func3
    (ChangeSpec.witness6 (enc := enc) (C := Try.checked) false ⟨#[], #[.int .i64 0, .slice none 0 0], []⟩ 8 (by kernel_rfl) (by kernel_rfl) (by kernel_rfl) (by kernel_rfl)) ?_
  intro W base args ds gs before hval0 hW hcnd _
  have hval : ∀ (j : Nat) t v, Try.f3.params[j]? = some t → args[j]? = some v → Value.okWide Try.prog W .any base t v := hval0
  have hW' := hW
  obtain ⟨p, q, hA0, hV, rfl, hfz, hnd⟩ := hW
  have hA : DataW.TrodAll enc Try.prog W 0 (fun _ => true) true Try.f3.params.toList args.toList ds p := hA0
  rw [Try.params3] at hA hval
  obtain ⟨v0, vs0, d0, ds0, p0, q0, hargs, rfl, rfl, h0, r0⟩ := trodAll_cons hA
  obtain ⟨v1, vs1, d1, ds1, p1, q1, rfl, rfl, rfl, h1, r1⟩ := trodAll_cons r0
  obtain ⟨rfl, rfl, rfl⟩ := trodAll_nil r1
  obtain rfl : args = #[v0, v1] := by cases args; simp_all
  obtain ⟨rfl, rfl⟩ := trodVars_none hV
  obtain ⟨a0, rfl, rfl, rfl, w0⟩ := open_int Try.underlying3 (hval 0 3 v0 rfl rfl) h0
  obtain ⟨a1, len1, cap1, rfl⟩ := okWide_slice Try.underlying22 (hval 1 22 v1 rfl rfl)
  have k1 := h1
  have lt1 : ∀ x ∈ p1, x.block < W.heap.size := by obtain ⟨m, hm⟩ := k1; exact DataW.trod_lt m _ _ _ hm
  obtain ⟨z1, w1⟩ : ∃ zs, IsRow .i64 W a1 len1 cap1 zs := by
    obtain ⟨fuel, hf⟩ := h1
    rcases open_ints Try.underlying22 Try.underlying3 (by kernel_rfl) hf with ⟨hcs, _⟩ | ⟨x, l, c, zs, hcs, _, hl, hm, hz, _, hcell, hwz⟩
    · simp [Value.cells] at hcs
      obtain ⟨rfl, rfl, rfl⟩ := hcs
      exact ⟨[], .inl ⟨rfl, rfl, rfl, rfl⟩⟩
    · simp [Value.cells] at hcs
      obtain ⟨rfl, rfl, rfl⟩ := hcs
      exact ⟨zs, .inr ⟨_, rfl, hl, hm, by simpa using hz, hcell, hwz⟩⟩
  clear hA0 hval0
  refine (walk a0 a1 len1 cap1 z1 W w0 w1).mono fun e W' ⟨he, bel⟩ => ?_
  subst he
  exact ⟨_, rfl, _, _, _, [], _, [], hW', trodAll_mk1 (shut_bool Try.underlying4 _), (trodAll_cons_mk (shut_int Try.underlying3 w0) (trodAll_cons_mk (Below.trod laidOut (by kernel_rfl) (of_decide_eq_true (by kernel_rfl)) k1 bel lt1) trodAll_mk0)), rfl, bel.frame _, fun h => by cases h⟩

theorem over : Rows.amountSplitsRow.holds Try.pinned (OpenSpec.ofChange Rows.amountSplitsSpec) :=
  OpenClaim.holds_of_wide 3 Try.f3 rfl rfl rfl rfl rfl rfl rfl ⟨rfl, rfl, rfl, rfl, rfl⟩ rfl rfl rfl rfl rfl (by kernel_rfl) Try.func3 (by kernel_rfl)
    (of_decide_eq_true (by kernel_rfl)) (by unfold Func.isWrapper; first | (rw [if_pos (by decide +kernel)]; kernel_rfl) | (rw [if_neg (by decide +kernel)]; exact ⟨rfl, rfl⟩))
    (fun os started H enc _ => lifted os started H enc)

/-- The statement. -/
theorem proved : Rows.AmountSplitsSaid := over
#print axioms proved
end Go.Proofs.Ytbjjogbnndmmmaa.amountSplits

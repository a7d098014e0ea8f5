/-
  For every total and all weights chattellaw01.AmountWhole answers true, and its arguments read behind the call as they did before. No condition.
-/
import Derived.Test.YtaclniiagfpldaaFrame
import Derived.Test.YtaclniiagfpldaaWholeW
namespace Go.Proofs.Ytaclniiagfpldaa.amountWhole
open Go.ChangeShapes Go.WideShapes Go.ChangeAt Go.RowKit
open Go.ChangeMaps (open_string shut_string)
set_option linter.unusedVariables false

/-- The parts as a list. -/
def partsL (T : Int) (l : List Int) (d : Array Int) : List Int := (List.range l.length).map fun t => sgn (decide (T < 0)) (partF (absI T) l d t)
theorem partsL_len (T : Int) (l : List Int) (d : Array Int) : (partsL T l d).length = l.length := by simp [partsL]
theorem partsL_at (T : Int) (l : List Int) (d : Array Int) {t : Nat} (ht : t < l.length) : (partsL T l d).getD t 0 = sgn (decide (T < 0)) (partF (absI T) l d t) := by
  rw [List.getD_eq_getElem?_getD]; simp [partsL, ht]
theorem sumK_eq (l : List Int) (f : Nat → Int) : ∀ k, (∀ t, t < k → l.getD t 0 = f t) → sumK l k = sumF f k
  | 0, _ => rfl
  | k + 1, h => by simp only [sumK, sumF]; rw [sumK_eq l f k (fun t ht => h t (by omega)), h k (by omega)]
theorem sumF_neg (f : Nat → Int) : ∀ n, sumF (fun t => -(f t)) n = -(sumF f n)
  | 0 => rfl
  | n + 1 => by simp only [sumF]; rw [sumF_neg f n]; omega
theorem partsL_sum {T : Int} {l : List Int} {d : Array Int} (h : Ordered (absI T) l d) (hS : 0 < sumL l) (hn : NonNeg l) (h0 : 0 < l.length) : sumL (partsL T l d) = T := by
  unfold sumL
  rw [sumK_eq _ (fun t => sgn (decide (T < 0)) (partF (absI T) l d t)) _ (fun t ht => partsL_at T l d (by rw [partsL_len] at ht; exact ht)), partsL_len]
  have ha : 0 ≤ absI T := by unfold absI; omega
  have hs := partF_sum h ha hS hn h0
  by_cases c : T < 0
  · rw [decide_eq_true c]
    show sumF (fun t => -(partF (absI T) l d t)) l.length = T
    rw [sumF_neg, hs, absI_neg c]; omega
  · rw [decide_eq_false c]
    show sumF (partF (absI T) l d) l.length = T
    rw [hs, absI_nonneg (by omega)]

theorem fair {T : Int} {l : List Int} {d : Array Int} (h : Ordered (absI T) l d) (hS : 0 < sumL l) (hn : NonNeg l) (h0 : 0 < l.length) :
    Fair T (fun t => l.getD t 0) (fun t => sgn (decide (T < 0)) (partF (absI T) l d t)) l.length := by
  have ha : 0 ≤ absI T := by unfold absI; omega
  have hb := fun t ht => partF_bd (d := d) ha hS hn (t := t) ht
  refine ⟨fun hT t ht => ?_, fun hT t ht => ?_, fun t ht hw => ?_, fun hT i k hi hk hw => ?_, fun hT i k hi hk hw => ?_⟩
  · show 0 ≤ sgn _ _
    rw [decide_eq_false (by omega)]; exact (hb t ht).1
  · show sgn _ _ ≤ 0
    by_cases c : T < 0
    · rw [decide_eq_true c]; show -(partF (absI T) l d t) ≤ 0; have := (hb t ht).1; omega
    · rw [decide_eq_false c]; show partF (absI T) l d t ≤ 0; have := (hb t ht).2; have e : T = 0 := by omega
      subst e; exact this
  · show sgn _ _ = 0
    rw [partF_zero h ha hS hn h0 ht hw]; unfold sgn; split <;> omega
  · show sgn _ _ ≤ sgn _ _
    rw [decide_eq_false (by omega)]
    exact partF_mono h (by rw [absI_nonneg (by omega)]; exact hT) hS hn h0 hi hk hw
  · show sgn _ _ ≤ sgn _ _
    rw [decide_eq_true hT]
    show -(partF (absI T) l d i) ≤ -(partF (absI T) l d k)
    have := partF_mono h (by rw [absI_neg hT]; omega) hS hn h0 hi hk hw
    omega

theorem walk (a0 : Int) (a1 : Option Addr) (len1 cap1 : Nat) (z1 : List Int) (w : World) (w0 : (Lit.int .i64 a0).wf = true) (w1 : IsRow .i64 w a1 len1 cap1 z1) :
    Calls Try.prog 7 #[.int .i64 a0, .slice a1 len1 cap1] w fun e w' => e = .returned (.bool true) ∧ Below w.heap.size w w' := by
  obtain ⟨hT0, hT1⟩ := wf_bd w0
  obtain ⟨hmax, hp⟩ := w1.parts
  by_cases c64 : 64 < len1
  · exact whole_long a0 a1 len1 cap1 w c64 hmax
  · rcases hp with h0 | ⟨b, o, rfl, hb, l, rfl, hr, hi⟩
    · subst h0
      exact whole_bad a0 a1 0 cap1 1 w (by omega) (by decide) (split_bad a0 _ 1 w (weigh_arg a1 0 cap1 w (by omega) (by omega)) (by decide))
    · by_cases c0 : l.length < 1
      · exact whole_bad a0 _ l.length cap1 1 w (by omega) (by decide) (split_bad a0 _ 1 w (weigh_arg _ _ cap1 w (by omega) (by omega)) (by decide))
      · by_cases cn : ∃ t, t < l.length ∧ l.getD t 0 < 0
        · exact whole_bad a0 _ l.length cap1 10 w (by omega) (by decide) (split_bad a0 _ 10 w (weigh_neg l b o cap1 w hr (by omega) (by omega) cn) (by decide))
        · have hpos : ∀ t, t < l.length → 0 ≤ l.getD t 0 := fun t ht => by
            rcases Int.lt_or_le (l.getD t 0) 0 with g | g
            · exact absurd ⟨t, ht, g⟩ cn
            · exact g
          have hnn := NonNeg.of hpos
          have hwg := weigh_sum l b o cap1 w hr hi (by omega) (by omega) hpos
          have hs0 : 0 ≤ sumL l := sumK_nonneg hnn _
          by_cases co : inR (sumL l) = true
          · rw [fitN_in co, fitE_in co] at hwg
            have hs1 := ((inR_iff _).1 co).2
            by_cases cm : a0 = -9223372036854775808
            · subst cm
              exact whole_bad _ _ l.length cap1 11 w (by omega) (by decide) (split_min _ _ w hwg)
            · by_cases cz : sumL l = 0
              · rw [cz] at hwg
                exact whole_bad a0 _ l.length cap1 12 w (by omega) (by decide) (split_zero a0 _ w hwg cm)
              · have hS : 0 < sumL l := by omega
                have hsp := split_ok a0 l b o cap1 w hb hr hi hnn (by omega) (by omega) hS hs1 (by omega) hT1
                have hsp' : Calls Try.prog 22 #[.int .i64 a0, .slice (some ⟨b, o, none⟩) l.length cap1] w fun e w' => e = .returned (.tuple #[.slice (some ⟨w.heap.size, 0, none⟩) l.length l.length, .int .i64 0]) ∧
                    ∃ p : Nat → Int, Fair a0 (fun t => l.getD t 0) p l.length ∧ Below w.heap.size w w' ∧
                    (∀ t, t < l.length → w'.cell? ⟨b, o + t, none⟩ = some (.int .i64 (l.getD t 0))) ∧ (∀ t, t < l.length → w'.cell? ⟨w.heap.size, 0 + t, none⟩ = some (.int .i64 (p t))) ∧
                    Calls Try.prog 14 #[.slice (some ⟨w.heap.size, 0, none⟩) l.length l.length] w' fun e w'' => e = .returned (.tuple #[.int .i64 a0, .int .i64 0]) ∧ w' = w'' := by
                  refine hsp.mono ?_
                  rintro e w' ⟨rfl, d, ho, hbel, hsz, hc⟩
                  refine ⟨rfl, _, fair ho hS hnn (by omega), hbel, fun t ht => by rw [hbel.cell (p := ⟨b, o + t, none⟩) hb]; exact hr t ht, hc, ?_⟩
                  have hrow : Row w' w.heap.size 0 (partsL a0 l d) := fun t ht => by
                    rw [partsL_len] at ht
                    rw [partsL_at a0 l d ht]; exact hc t ht
                  have hin : InI (partsL a0 l d) := fun t => by
                    by_cases ht : t < l.length
                    · rw [partsL_at a0 l d ht]
                      have hb2 := partF_bd (T := absI a0) (d := d) (by unfold absI; omega) hS hnn ht
                      have ha : absI a0 ≤ 9223372036854775807 := by unfold absI; omega
                      unfold sgn; split <;> omega
                    · rw [List.getD_eq_getElem?_getD, List.getElem?_eq_none (by rw [partsL_len]; omega)]; exact ⟨by decide, by decide⟩
                  have hsum := sum_row (partsL a0 l d) w.heap.size 0 l.length w' hrow hin (by rw [partsL_len]; omega)
                  rw [partsL_len, partsL_sum ho hS hnn (by omega), fitN_in ((inR_iff _).2 ⟨hT0, hT1⟩), fitE_in ((inR_iff _).2 ⟨hT0, hT1⟩)] at hsum
                  exact hsum
                rcases Int.lt_trichotomy a0 0 with g | g | g
                · exact whole_neg a0 _ l.length b o cap1 w.heap.size w (by omega) g hsp'
                · exact whole_nil a0 _ l.length b o cap1 w.heap.size w (by omega) (by omega) (by omega) hsp'
                · exact whole_pos a0 _ l.length b o cap1 w.heap.size w (by omega) g hsp'
          · have co' : inR (sumL l) = false := by simpa using co
            rw [fitN_out co', fitE_out co'] at hwg
            exact whole_bad a0 _ l.length cap1 11 w (by omega) (by decide) (split_bad a0 _ 11 w hwg (by decide))

set_option maxRecDepth 100000 in
theorem lifted (os : Os) (started : os.Started) (H : Type) (enc : TypeId × Value → H) :
    ReturnsInHanded {} Try.checked os 7 .any (Rows.amountWholeSpec.pre6 enc Try.prog Try.f7 Rows.amountWholeRow.domain false) (Rows.amountWholeSpec.post enc Try.prog Try.f7 false true false false) := by
  refine returnsInHanded_of_change (C := Try.checked) own started (by kernel_rfl) Try.func7
    (ChangeSpec.witness6 (enc := enc) (C := Try.checked) false ⟨#[], #[.int .i64 0, .slice none 0 0], []⟩ 8 (by kernel_rfl) (by kernel_rfl) (by kernel_rfl) (by kernel_rfl)) ?_
  intro W base args ds gs before hval0 hW hcnd _
  have hval : ∀ (j : Nat) t v, Try.f7.params[j]? = some t → args[j]? = some v → Value.okWide Try.prog W .any base t v := hval0
  have hW' := hW
  obtain ⟨p, q, hA0, hV, rfl, hfz, hnd⟩ := hW
  have hA : DataW.TrodAll enc Try.prog W 0 (fun _ => true) true Try.f7.params.toList args.toList ds p := hA0
  rw [Try.params7] at hA hval
  obtain ⟨v0, vs0, d0, ds0, p0, q0, hargs, rfl, rfl, h0, r0⟩ := trodAll_cons hA
  obtain ⟨v1, vs1, d1, ds1, p1, q1, rfl, rfl, rfl, h1, r1⟩ := trodAll_cons r0
  obtain ⟨rfl, rfl, rfl⟩ := trodAll_nil r1
  obtain rfl : args = #[v0, v1] := by cases args; simp_all
  obtain ⟨rfl, rfl⟩ := trodVars_none hV
  obtain ⟨a0, rfl, rfl, rfl, w0⟩ := open_int Try.underlying3 (hval 0 3 v0 rfl rfl) h0
  obtain ⟨a1, len1, cap1, rfl⟩ := okWide_slice Try.underlying22 (hval 1 22 v1 rfl rfl)
  have k1 := h1
  have lt1 : ∀ x ∈ p1, x.block < W.heap.size := by obtain ⟨m, hm⟩ := k1; exact DataW.trod_lt m _ _ _ hm
  obtain ⟨z1, w1⟩ : ∃ zs, IsRow .i64 W a1 len1 cap1 zs := by
    obtain ⟨fuel, hf⟩ := h1
    rcases open_ints Try.underlying22 Try.underlying3 (by kernel_rfl) hf with ⟨hcs, _⟩ | ⟨x, l, c, zs, hcs, _, hl, hm, hz, _, hcell, hwz⟩
    · simp [Value.cells] at hcs
      obtain ⟨rfl, rfl, rfl⟩ := hcs
      exact ⟨[], .inl ⟨rfl, rfl, rfl, rfl⟩⟩
    · simp [Value.cells] at hcs
      obtain ⟨rfl, rfl, rfl⟩ := hcs
      exact ⟨zs, .inr ⟨_, rfl, hl, hm, by simpa using hz, hcell, hwz⟩⟩
  clear hA0 hval0
  refine (walk a0 a1 len1 cap1 z1 W w0 w1).mono fun e W' ⟨he, bel⟩ => ?_
  subst he
  exact ⟨_, rfl, _, _, _, [], _, [], hW', trodAll_mk1 (shut_bool Try.underlying4 _), (trodAll_cons_mk (shut_int Try.underlying3 w0) (trodAll_cons_mk (Below.trod laidOut (by kernel_rfl) (of_decide_eq_true (by kernel_rfl)) k1 bel lt1) trodAll_mk0)), rfl, bel.frame _, fun h => by cases h⟩

theorem over : Rows.amountWholeRow.holds Try.pinned (OpenSpec.ofChange Rows.amountWholeSpec) :=
  OpenClaim.holds_of_wide 7 Try.f7 rfl rfl rfl rfl rfl rfl rfl ⟨rfl, rfl, rfl, rfl, rfl⟩ rfl rfl rfl rfl rfl (by kernel_rfl) Try.func7 (by kernel_rfl)
    (of_decide_eq_true (by kernel_rfl)) (by unfold Func.isWrapper; first | (rw [if_pos (by decide +kernel)]; kernel_rfl) | (rw [if_neg (by decide +kernel)]; exact ⟨rfl, rfl⟩))
    (fun os started H enc _ => lifted os started H enc)

/-- The statement. -/
theorem proved : Rows.AmountWholeSaid := over
#print axioms proved
end Go.Proofs.Ytaclniiagfpldaa.amountWhole

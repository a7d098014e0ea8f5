/-
  What is known, in the words of sorted lists: no program.
-/
import Derived.Test.YtgeneoamngfomaaGreatDoorFq
import Derived.Test.YtgeneoamngfomaaGreatDoorFcE
namespace Go.Proofs.YtgeneoamngfomaaGreatDoor
open Go.RowKit Go.Lib Go.Maps
set_option linter.unusedVariables false
set_option linter.unusedSimpArgs false

theorem isH_iff {k f u p : Int} {t : Fct} : isH k f u p t = true ↔ t.k = k ∧ f ≤ t.d ∧ t.d ≤ u ∧ t.p = p := by unfold isH; simp [and_assoc]
theorem AllOf.has2 {D : DataW Unit} {ps : List Ent} (h : AllOf D ps) {t : Ent} (ht : t ∈ ps) : Maps.has D (entK t) = true := has_true_of_atKey (h.val t ht)
theorem know_first {D : DataW Unit} {l : List Fct} (h : RelV vI D l) {ps : List Ent} (ha : AllOf D ps) {k f u p d : Int} {is : Bool} (hk : I64 k) (hf : FstA ps k f u p d is) :
    (∀ t, l.find? (isH k f u p) = some t → is = true ∧ d = t.d) ∧ (l.find? (isH k f u p) = none → is = false ∧ d = 0) := by
  have back : is = true → ∃ t ∈ l, isH k f u p t = true ∧ t.d = d := fun hi => by
    obtain ⟨x, hx, e1, e2, e3, e4, e5⟩ := hf.yes hi
    have hh := ha.has2 hx
    obtain ⟨o1, o2, o3⟩ := ha.ok x hx
    have hv := ha.val x hx (intD 0)
    unfold entK at hh hv
    obtain ⟨t, ht, t1, t2⟩ := h.all _ _ o1 o2 hh
    obtain ⟨_, b2⟩ := h.val t ht
    have b2' := b2 (intD 0)
    rw [t1, t2, hv] at b2'
    have hp : x.2.2 = t.p := intD_inj b2'
    exact ⟨t, ht, isH_iff.2 ⟨by rw [t1, e1], by rw [t2]; exact e3, by rw [t2]; exact e4, by rw [← hp, e2]⟩, by rw [t2, e5]⟩
  refine ⟨fun t ht => ?_, fun hn => ?_⟩
  · obtain ⟨hq, l1, l2, hl, hl1⟩ := List.find?_eq_some_iff_append.1 ht
    have hm : t ∈ l := List.mem_of_find?_eq_some ht
    obtain ⟨g1, g2, g3, g4⟩ := isH_iff.1 hq
    obtain ⟨a1, a2⟩ := h.ok t hm
    obtain ⟨b1, b2⟩ := h.val t hm
    rcases ha.all _ b1 with e | ⟨x, hx, e⟩
    · cases e
    · obtain ⟨o1, o2, o3⟩ := ha.ok x hx
      obtain ⟨e1, e2⟩ := plk_inj o1 o2 a1 a2 e
      have hv := ha.val x hx (intD 0)
      rw [e, b2 (intD 0)] at hv
      have hp : t.p = x.2.2 := intD_inj hv
      obtain ⟨hi, hd⟩ := hf.low x hx (by rw [e1, g1]) (by rw [← hp, g4]) (by rw [e2]; exact g2) (by rw [e2]; exact g3)
      obtain ⟨t', ht', hq', hd'⟩ := back hi
      refine ⟨hi, ?_⟩
      rw [hl] at ht'
      rcases List.mem_append.1 ht' with hm' | hm'
      · have := hl1 t' hm'
        rw [hq'] at this; cases this
      · rcases List.mem_cons.1 hm' with rfl | hm'
        · exact hd'.symm
        · have hs := h.srt
          unfold Srt at hs
          rw [hl, List.pairwise_append] at hs
          have := (List.pairwise_cons.1 hs.2.1).1 t' hm'
          have g1' := (isH_iff.1 hq').1
          unfold befT at this
          omega
  · have hi : is = false := by
      cases hi : is with
      | false => rfl
      | true =>
        obtain ⟨t, ht, hq, _⟩ := back hi
        exact absurd hq (List.find?_eq_none.1 hn t ht)
    exact ⟨hi, hf.no hi⟩

end Go.Proofs.YtgeneoamngfomaaGreatDoor

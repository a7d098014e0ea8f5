/-
  Package value: what is known stays as it is, if more is told (no program).
-/
import Derived.Test.YtjafbfepdmgjnaaGreatDoorVlH
namespace Go.Proofs.YtjafbfepdmgjnaaGreatDoor
open Go.RowKit Go.Lib Go.Shelf Go.Maps
set_option linter.unusedVariables false
set_option linter.unusedSimpArgs false

theorem srt_one {l : List Fct} (h : Srt l) {t u : Fct} (ht : t ∈ l) (hu : u ∈ l) (e1 : t.k = u.k) (e2 : t.d = u.d) : t = u := by
  have := List.pairwise_iff_getElem.1 h
  obtain ⟨i, hi, rfl⟩ := List.mem_iff_getElem.1 ht
  obtain ⟨j, hj, rfl⟩ := List.mem_iff_getElem.1 hu
  by_cases e : i = j
  · subst e; rfl
  · rcases Nat.lt_or_gt_of_ne e with h | h
    · have := this i j hi hj h
      unfold befT at this
      omega
    · have := this j i hj hi h
      unfold befT at this
      omega
/-- One more is told. -/
def stF (a : List Fct) (t : Tol) : List Fct := if t.c = true then a else if tolE t = 0 then putL a ⟨t.k, t.d, t.x, t.y, 0⟩ else a
theorem ok_told {x : Tol} (hc : ¬ x.c = true) (he : tolE x = 0) (ht : x.Ok) : OkR x.x x.y := by
  obtain ⟨_, _, hx, hy, _⟩ := ht
  unfold tolE at he
  rw [if_neg hc] at he
  unfold fixE at he
  by_cases hp : plcE x.k x.d = 0
  · rw [if_pos hp] at he
    exact chkE_zero he hx.1 hx.2 hy.2
  · rw [if_neg hp] at he; exact absurd he hp
/-- What is known is known alike. -/
def MoreL (l l' : List Fct) : Prop := ∀ k d, (gtL l k d).2.2 = true → gtL l' k d = gtL l k d
theorem MoreL.refl (l : List Fct) : MoreL l l := fun _ _ _ => rfl
theorem MoreL.trans {a b c : List Fct} (h : MoreL a b) (h' : MoreL b c) : MoreL a c := fun k d hk => (h' k d (by rw [h k d hk]; exact hk)).trans (h k d hk)
theorem gt_put {l : List Fct} (hs : Srt l) (x : Fct) (h : (gtL l x.k x.d).2.2 = false) : MoreL l (putL l x) := by
  intro k d hk
  rcases gtL_cases l k d with ⟨t, ht, e1, e2, e⟩ | ⟨_, e⟩
  · have hne : ¬ (t.k = x.k ∧ t.d = x.d) := fun hc => by
      rw [← hc.1, ← hc.2, e1, e2, hk] at h; cases h
    have hm : t ∈ putL l x := mem_put.2 (.inr ⟨ht, neB_iff.2 hne⟩)
    rcases gtL_cases (putL l x) k d with ⟨u, hu, f1, f2, f⟩ | ⟨f0, f⟩
    · have := srt_one (srt_put x hs) hu hm (f1.trans e1.symm) (f2.trans e2.symm)
      subst this
      rw [e, f]
    · have := List.find?_eq_none.1 f0 t hm
      exact absurd (isG_iffE.2 ⟨e1, e2⟩) this
  · rw [e] at hk; cases hk
theorem stF_more {l : List Fct} (hs : Srt l) (t : Tol) (h : (gtL l t.k t.d).2.2 = false) : MoreL l (stF l t) := by
  unfold stF
  split
  · exact MoreL.refl l
  · split
    · exact gt_put hs ⟨t.k, t.d, t.x, t.y, 0⟩ h
    · exact MoreL.refl l
theorem rel_stF {D : DataW Unit} {l : List Fct} (h : RelV vR D l) (t : Tol) (ht : t.Ok) : RelV vR (tolF t D) (stF l t) := by
  unfold tolF stF
  split
  · exact h
  · split
    · exact h.put ⟨t.k, t.d, t.x, t.y, 0⟩ ht.1 ht.2.1
    · exact h
theorem okL_stF {l : List Fct} (h : OkL l) (t : Tol) (ht : t.Ok) : OkL (stF l t) := by
  unfold stF
  split
  · exact h
  · rename_i hc
    split
    · rename_i he
      intro u hu
      rcases mem_put.1 hu with rfl | ⟨hu, _⟩
      · exact ok_told hc he ht
      · exact h u hu
    · exact h
end Go.Proofs.YtjafbfepdmgjnaaGreatDoor

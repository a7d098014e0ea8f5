/-
  Package facts: what is known of a key at a day, by the list that the facts are.
-/
import Derived.Test.YtgeneoamngfomaaGreatDoorFq
namespace Go.Proofs.YtgeneoamngfomaaGreatDoor
open Go.RowKit Go.Lib Go.Maps
set_option linter.unusedVariables false
set_option linter.unusedSimpArgs false

theorem isG_iffE {k d : Int} {t : Fct} : isG k d t = true ↔ t.k = k ∧ t.d = d := by unfold isG; simp
theorem know_getE {V : Fct → DataW Unit} {D : DataW Unit} {l : List Fct} (h : RelV V D l) {k d : Int} (hk : I64 k) (hd : I64 d) (z : DataW Unit) :
    (∀ t, l.find? (isG k d) = some t → Maps.has D (plk k d) = true ∧ D.atKey (plk k d) z = V t) ∧ (l.find? (isG k d) = none → Maps.has D (plk k d) = false ∧ D.atKey (plk k d) z = z) := by
  refine ⟨fun t ht => ?_, fun hn => ?_⟩
  · have hm := List.mem_of_find?_eq_some ht
    have hg := isG_iffE.1 (List.find?_some ht)
    obtain ⟨h1, h2⟩ := h.val t hm
    rw [hg.1, hg.2] at h1 h2
    exact ⟨h1, h2 z⟩
  · have hh : Maps.has D (plk k d) = false := by
      cases e : Maps.has D (plk k d) with
      | false => rfl
      | true =>
        obtain ⟨t, ht, e1, e2⟩ := h.all k d hk hd e
        have := List.find?_eq_none.1 hn t ht
        exact absurd (isG_iffE.2 ⟨e1, e2⟩) this
    exact ⟨hh, atKey_of_not_has hh z⟩
/-- What a list tells of a key and a day. -/
def gtL (l : List Fct) (k d : Int) : Int × Int × Bool := match l.find? (isG k d) with
  | some t => (t.x, t.y, true)
  | none => (0, 0, false)
theorem gtL_cases (l : List Fct) (k d : Int) : (∃ t, t ∈ l ∧ t.k = k ∧ t.d = d ∧ gtL l k d = (t.x, t.y, true)) ∨ (l.find? (isG k d) = none ∧ gtL l k d = (0, 0, false)) := by
  unfold gtL
  cases hf : l.find? (isG k d) with
  | none => exact .inr ⟨rfl, rfl⟩
  | some t =>
    have hg := isG_iffE.1 (List.find?_some hf)
    exact .inl ⟨t, List.mem_of_find?_eq_some hf, hg.1, hg.2, rfl⟩
theorem fixing_l (w : World) {B bf bc n : Nat} {Df Dc : DataW Unit} (h : FacM w B bf bc n Df Dc) {l : List Fct} (hr : RelV vR Df l) (k d : Int) (hk : I64 k) (hd : I64 d) :
    Calls Tryz.prog 164 #[.pointer (some ⟨B, 0, none⟩), .int .i64 k, .int .i64 d] w fun e w' => e = .returned (.tuple #[.agg #[.int .i64 (gtL l k d).1, .int .i64 (gtL l k d).2.1], .bool (gtL l k d).2.2]) ∧ Below w.heap.size w w' := by
  refine (fixing_any w h k d hk hd).mono ?_
  rintro e w' ⟨x, y, rfl, hx, hb⟩
  obtain ⟨g1, g2⟩ := know_getE hr hk hd (ratD 0 0)
  unfold gtL
  cases hf : l.find? (isG k d) with
  | none =>
    obtain ⟨a1, a2⟩ := g2 hf
    rw [a2] at hx
    obtain ⟨rfl, rfl⟩ := ratD_inj hx
    rw [a1]
    exact ⟨rfl, hb⟩
  | some t =>
    obtain ⟨a1, a2⟩ := g1 t hf
    rw [a2] at hx
    obtain ⟨e1, e2⟩ := ratD_inj hx
    rw [a1, ← e1, ← e2]
    exact ⟨rfl, hb⟩

end Go.Proofs.YtgeneoamngfomaaGreatDoor

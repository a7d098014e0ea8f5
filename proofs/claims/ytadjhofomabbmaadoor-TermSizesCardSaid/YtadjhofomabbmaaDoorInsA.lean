/-
  Plain rows: the insertion sort of a part that holds its own places is sorted by the key, then by place. No program.
-/
import Derived.Test.YtadjhofomabbmaaDoorMergeA
namespace Go.Proofs.YtadjhofomabbmaaDoor
open Go.Sort
set_option linter.unusedVariables false

structure InsI (κ : Int → Int) (a j i : Nat) (d : Array Int) : Prop where
  rest : ∀ p q, a ≤ p → p < q → q ≤ i → p ≠ j → q ≠ j → pr κ d[p]! d[q]!
  right : ∀ q, j < q → q ≤ i → pr κ d[j]! d[q]!
  small : ∀ p, a ≤ p → p ≤ i → p ≠ j → d[p]! < d[j]!

theorem InsI.stop {κ : Int → Int} {a j i : Nat} {d : Array Int} (h : InsI κ a j i d) (hji : j ≤ i) (haj : a ≤ j) (hs : j ≤ a ∨ ¬ κ d[j - 1]! < κ d[j]!) : Srt κ a (i + 1) d := by
  have left : ∀ p, a ≤ p → p < j → pr κ d[p]! d[j]! := fun p h1 h2 => by
    rcases hs with hs | hs
    · omega
    · have hl : pr κ d[j - 1]! d[j]! := pr_of_not hs (h.small (j - 1) (by omega) (by omega) (by omega))
      by_cases e : p = j - 1
      · rw [e]; exact hl
      · exact pr_trans (h.rest p (j - 1) h1 (by omega) (by omega) (by omega) (by omega)) hl
  intro p q h1 h2 h3
  by_cases e1 : q = j
  · rw [e1]; exact left p h1 (by omega)
  · by_cases e2 : p = j
    · rw [e2]; exact h.right q (by omega) (by omega)
    · exact h.rest p q h1 h2 (by omega) e2 e1

theorem InsI.step {κ : Int → Int} {a j i : Nat} {d : Array Int} (h : InsI κ a j i d) (hji : j ≤ i) (haj : a < j) (hi : i < d.size) (hs : κ d[j - 1]! < κ d[j]!) : InsI κ a (j - 1) i (swp d j (j - 1)) := by
  have g1 : (swp d j (j - 1))[j]! = d[j - 1]! := swp_left d j (j - 1) (by omega) (by omega)
  have g2 : (swp d j (j - 1))[j - 1]! = d[j]! := swp_right d j (j - 1) (by omega)
  have g3 : ∀ k, k ≠ j → k ≠ j - 1 → (swp d j (j - 1))[k]! = d[k]! := fun k h1 h2 => swp_other d j (j - 1) k h1 h2
  refine ⟨?_, ?_, ?_⟩
  · intro p q h1 h2 h3 h4 h5
    by_cases e1 : p = j
    · rw [e1, g1, g3 q (by omega) h5]; exact h.rest (j - 1) q (by omega) (by omega) h3 (by omega) (by omega)
    · by_cases e2 : q = j
      · rw [e2, g1, g3 p e1 h4]; exact h.rest p (j - 1) h1 (by omega) (by omega) e1 (by omega)
      · rw [g3 p e1 h4, g3 q e2 h5]; exact h.rest p q h1 h2 h3 e1 e2
  · intro q h1 h2
    rw [g2]
    by_cases e : q = j
    · rw [e, g1]; exact pr_of_lt hs
    · rw [g3 q e (by omega)]; exact h.right q (by omega) h2
  · intro p h1 h2 h3
    rw [g2]
    by_cases e : p = j
    · rw [e, g1]; exact h.small (j - 1) (by omega) (by omega) (by omega)
    · rw [g3 p e h3]; exact h.small p h1 h2 e

theorem insInner_srt (κ : Int → Int) (lt : Int → Int → Bool) (hlt : ∀ x y, lt x y = true ↔ κ y < κ x) (a i : Nat) :
    ∀ (j : Nat) (d : Array Int), a ≤ j → j ≤ i → i < d.size → InsI κ a j i d → Srt κ a (i + 1) (insInner lt a j d) ∧ ∀ t, i < t → (insInner lt a j d)[t]! = d[t]!
  | 0, d, h1, h2, h3, hI => by unfold insInner; exact ⟨hI.stop h2 h1 (Or.inl (by omega)), fun _ _ => rfl⟩
  | j + 1, d, h1, h2, h3, hI => by
    unfold insInner
    split
    · rename_i hc
      simp only [Bool.and_eq_true, decide_eq_true_eq] at hc
      have st := hI.step h2 (by omega) h3 (by simpa using (hlt _ _).1 hc.2)
      simp only [Nat.add_sub_cancel] at st
      obtain ⟨r1, r2⟩ := insInner_srt κ lt hlt a i j (swp d (j + 1) j) (by omega) (by omega) (by rw [size_swp]; exact h3) st
      exact ⟨r1, fun t ht => by rw [r2 t ht]; exact swp_other _ _ _ _ (by omega) (by omega)⟩
    · rename_i hc
      simp only [Bool.and_eq_true, decide_eq_true_eq, not_and] at hc
      refine ⟨hI.stop h2 h1 ?_, fun _ _ => rfl⟩
      by_cases h : j + 1 > a
      · exact Or.inr (fun g => hc h ((hlt _ _).2 (by simpa using g)))
      · exact Or.inl (by omega)

theorem insOuter_srt (κ : Int → Int) (lt : Int → Int → Bool) (hlt : ∀ x y, lt x y = true ↔ κ y < κ x) (hS : SWO lt) (a b : Nat) :
    ∀ (n i : Nat) (d : Array Int), b - i = n → a < i → i ≤ b → b ≤ d.size → Srt κ a i d → (∀ t, a ≤ t → t < i → d[t]! < (i : Int)) → (∀ t, i ≤ t → t < b → d[t]! = (t : Int)) → Srt κ a b (insOuter lt a b i d)
  | 0, i, d, hn, h1, h2, h3, hs, _, _ => by
    obtain rfl : i = b := by omega
    rw [insOuter, if_neg (by omega)]; exact hs
  | n + 1, i, d, hn, h1, h2, h3, hs, hlo, hhi => by
    have hlt' : i < b := by omega
    rw [insOuter, if_pos hlt']
    have hI : InsI κ a i i d := ⟨fun p q h1 h2 h3 _ h5 => hs p q h1 h2 (by omega), fun q h1 h2 => by omega, fun p h1 h2 h3 => by rw [hhi i (Nat.le_refl _) hlt']; exact hlo p h1 (by omega)⟩
    obtain ⟨r1, r2⟩ := insInner_srt κ lt hlt a i i d (by omega) (Nat.le_refl _) (by omega) hI
    have hp : PermIn a (i + 1) d (insInner lt a i d) :=
      (insInner_spec hS swp_permIn permIn_refl permIn_trans a (i + 1) i (by omega) i d (by omega) (Nat.le_refl _) (by omega) ⟨fun p q hap hpq hqi _ hq => by
        have := hs p q hap hpq (by omega)
        have h' : ¬ lt d[q]! d[p]! = true := fun g => by
          have := (hlt _ _).1 g
          unfold pr at *; omega
        simpa using h', fun q h1 h2 => by omega⟩).1
    refine insOuter_srt κ lt hlt hS a b n (i + 1) _ (by omega) (by omega) (by omega) (by rw [hp.1]; exact h3) r1 ?_ ?_
    · exact permIn_all d _ a (i + 1) (fun x => x < ((i + 1 : Nat) : Int)) (by omega) hp (fun t t1 t2 => by
        by_cases e : t = i
        · rw [e, hhi i (Nat.le_refl _) hlt']; omega
        · have := hlo t t1 (by omega); omega)
    · intro t t1 t2
      rw [r2 t (by omega)]; exact hhi t (by omega) t2

theorem swo_key (κ : Int → Int) (lt : Int → Int → Bool) (hlt : ∀ x y, lt x y = true ↔ κ y < κ x) : SWO lt := by
  have hf : ∀ x y, lt x y = false ↔ ¬ κ y < κ x := fun x y => by
    rw [← hlt x y]; simp
  exact ⟨fun x => by rw [hf]; omega, fun x y z h1 h2 => by rw [hlt] at *; omega, fun x y z h1 h2 => by rw [hf] at *; omega⟩

/-- A part that is sorted, and holds just its own places. -/
def Seg (κ : Int → Int) (a b : Nat) (d : Array Int) : Prop := Srt κ a b d ∧ ∀ t, a ≤ t → t < b → (a : Int) ≤ d[t]! ∧ d[t]! < (b : Int)

theorem ins_seg (κ : Int → Int) (lt : Int → Int → Bool) (hlt : ∀ x y, lt x y = true ↔ κ y < κ x) (a b : Nat) (d : Array Int) (hab : a ≤ b) (hb : b ≤ d.size) (hid : ∀ t, a ≤ t → t < b → d[t]! = (t : Int)) :
    PermIn a b d (insertionSort lt d a b) ∧ Seg κ a b (insertionSort lt d a b) := by
  have hS := swo_key κ lt hlt
  have hp := (insertionSort_holds (lt := lt) hS d a b hab hb).1
  refine ⟨hp, ?_, permIn_all d _ a b (fun x => (a : Int) ≤ x ∧ x < (b : Int)) hb hp (fun t t1 t2 => by rw [hid t t1 t2]; omega)⟩
  by_cases e : a = b
  · subst e; intro i j h1 h2 h3; omega
  · unfold insertionSort
    exact insOuter_srt κ lt hlt hS a b _ (a + 1) d rfl (by omega) (by omega) hb (fun i j h1 h2 h3 => by omega) (fun t t1 t2 => by rw [hid t t1 (by omega)]; omega) (fun t t1 t2 => hid t (by omega) t2)

theorem Seg.apt {κ : Int → Int} {a m b : Nat} {d : Array Int} (h : Seg κ a m d) (g : Seg κ m b d) : Apt a m b d := fun i j h1 h2 h3 h4 => by
  have := (h.2 i h1 h2).2; have := (g.2 j h3 h4).1; omega
theorem Seg.of_eq {κ : Int → Int} {a b : Nat} {d d' : Array Int} (h : Seg κ a b d) (he : ∀ t, a ≤ t → t < b → d'[t]! = d[t]!) : Seg κ a b d' :=
  ⟨h.1.of_eq he, fun t t1 t2 => by rw [he t t1 t2]; exact h.2 t t1 t2⟩
theorem Seg.merged {κ : Int → Int} {a m b : Nat} {d d' : Array Int} (h : Seg κ a m d) (g : Seg κ m b d) (hm : a ≤ m) (hmb : m ≤ b) (hb : b ≤ d.size) (hp : PermIn a b d d') (hs : Srt κ a b d') : Seg κ a b d' :=
  ⟨hs, permIn_all d d' a b (fun x => (a : Int) ≤ x ∧ x < (b : Int)) hb hp (fun t t1 t2 => by
    by_cases c : t < m
    · have := h.2 t t1 c; omega
    · have := g.2 t (by omega) t2; omega)⟩

end Go.Proofs.YtadjhofomabbmaaDoor

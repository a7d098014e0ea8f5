/-
  Plain numbers: who is given one first, of those of whom most was cut off. No program.
-/
import Derived.Test.YtbjjogbnndmmmaaPartsA
namespace Go.Proofs.Ytbjjogbnndmmmaa
open Go.Sort
set_option linter.unusedVariables false

/-- What is cut off of each, where the first ones of an order had theirs. -/
def restK (r : Nat → Int) (d : Array Int) : Nat → Nat → Int
  | 0 => r
  | k + 1 => fun t => if (t : Int) = d[k]! then -1 else restK r d k t
theorem restK_old (r : Nat → Int) (d : Array Int) (t : Nat) : ∀ k, (∀ j, j < k → d[j]! ≠ (t : Int)) → restK r d k t = r t
  | 0, _ => rfl
  | k + 1, h => by
    show (if (t : Int) = d[k]! then -1 else restK r d k t) = r t
    rw [if_neg (fun e => h k (by omega) e.symm)]
    exact restK_old r d t k (fun j hj => h j (by omega))
theorem restK_had (r : Nat → Int) (d : Array Int) (t : Nat) : ∀ k j, j < k → d[j]! = (t : Int) → restK r d k t = -1
  | k + 1, j, hj, e => by
    show (if (t : Int) = d[k]! then -1 else restK r d k t) = -1
    by_cases c : (t : Int) = d[k]!
    · rw [if_pos c]
    · rw [if_neg c]
      have : j ≠ k := fun g => c (by rw [← g]; exact e.symm)
      exact restK_had r d t k j (by omega) e

/-- The first one of the greatest. -/
def FirstMax (f : Nat → Int) (n b : Nat) : Prop := b < n ∧ (∀ t, t < n → f t ≤ f b) ∧ ∀ t, t < b → f t < f b
theorem FirstMax.one {f : Nat → Int} {n b c : Nat} (h : FirstMax f n b) (h' : FirstMax f n c) : b = c := by
  rcases Nat.lt_trichotomy b c with g | g | g
  · have := h'.2.2 b g; have := h.2.1 c h'.1; omega
  · exact g
  · have := h.2.2 c g; have := h'.2.1 b h.1; omega
theorem FirstMax.start (f : Nat → Int) : FirstMax f 1 0 := by
  refine ⟨by omega, fun t ht => ?_, fun t ht => by omega⟩
  obtain rfl : t = 0 := by omega
  exact Int.le_refl _
theorem FirstMax.up {f : Nat → Int} {i b : Nat} (h : FirstMax f i b) (hg : 0 < f i - f b) : FirstMax f (i + 1) i :=
  ⟨by omega, fun t ht => by
    by_cases e : t = i
    · subst e; exact Int.le_refl _
    · have := h.2.1 t (by omega); omega, fun t ht => by have := h.2.1 t ht; omega⟩
theorem FirstMax.stay {f : Nat → Int} {i b : Nat} (h : FirstMax f i b) (hg : ¬ 0 < f i - f b) : FirstMax f (i + 1) b :=
  ⟨by have := h.1; omega, fun t ht => by
    by_cases e : t = i
    · subst e; omega
    · exact h.2.1 t (by omega), h.2.2⟩

theorem first_next {T : Int} {l : List Int} {d : Array Int} (h : Ordered T l d) (hS : 0 < sumL l) {k : Nat} (hk : k < l.length) :
    FirstMax (restK (rF T (sumL l) l) d k) l.length (d[k]!).toNat ∧ ((d[k]!).toNat : Int) = d[k]! := by
  have hr := h.rng
  have hi := h.inj
  obtain ⟨k0, k1⟩ := hr k hk
  have ek : (((d[k]!).toNat : Nat) : Int) = d[k]! := by omega
  have old : restK (rF T (sumL l) l) d k (d[k]!).toNat = rF T (sumL l) l (d[k]!).toNat := restK_old _ _ _ k (fun j hj => by rw [ek]; exact hi j k hj hk)
  have hp : 0 ≤ rF T (sumL l) l (d[k]!).toNat := (rF_bd hS _).1
  have key : ∀ t, t < l.length → restK (rF T (sumL l) l) d k t ≤ rF T (sumL l) l (d[k]!).toNat ∧ (t < (d[k]!).toNat → restK (rF T (sumL l) l) d k t < rF T (sumL l) l (d[k]!).toNat) := by
    intro t ht
    obtain ⟨j, hj, ej⟩ := occ_ex (d := d) (t := t) l.length (by rw [occ_all hi hr ht]; exact Int.le_refl _)
    rcases Nat.lt_trichotomy j k with g | g | g
    · rw [restK_had _ _ t k j g ej]; omega
    · subst g
      have e2 : (d[j]!).toNat = t := by omega
      rw [e2] at old ⊢
      rw [old]; omega
    · have hn : restK (rF T (sumL l) l) d k t = rF T (sumL l) l t := restK_old _ _ _ k (fun i hik e => hi i j (by omega) hj (e.trans ej.symm))
      rw [hn]
      have hpr := h.2.1 k j (Nat.zero_le _) g hj
      unfold pr at hpr
      have e2 : (d[j]!).toNat = t := by omega
      simp only [e2] at hpr
      omega
  exact ⟨⟨by omega, fun t ht => by rw [old]; exact (key t ht).1, fun t ht => by rw [old]; exact (key t (by omega)).2 ht⟩, ek⟩

theorem restK_bd {T S : Int} {l : List Int} {d : Array Int} (hS : 0 < S) (t : Nat) : ∀ k, -1 ≤ restK (rF T S l) d k t ∧ restK (rF T S l) d k t ≤ S
  | 0 => by have := rF_bd (T := T) (l := l) hS t; show -1 ≤ rF T S l t ∧ rF T S l t ≤ S; omega
  | k + 1 => by
    have := restK_bd (T := T) (l := l) (d := d) hS t k
    show -1 ≤ (if (t : Int) = d[k]! then -1 else restK (rF T S l) d k t) ∧ (if (t : Int) = d[k]! then -1 else restK (rF T S l) d k t) ≤ S
    split <;> omega
theorem addK_le (P : Nat → Int) (d : Array Int) (t : Nat) {j k : Nat} (h : j ≤ k) : addK P d j t ≤ addK P d k t := by
  rw [addK_occ, addK_occ]
  have := occ_mono d t h
  omega

end Go.Proofs.Ytbjjogbnndmmmaa

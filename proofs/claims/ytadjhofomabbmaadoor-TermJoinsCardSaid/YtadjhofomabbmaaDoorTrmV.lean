/-
  The keys that a term tells, and its last day: no program.
-/
import Derived.Test.YtadjhofomabbmaaDoorTrmU
import Derived.Lib.OwnBridge
import Derived.Lib.SlicesCompact
namespace Go.Proofs.YtadjhofomabbmaaDoor
open Go.RowKit Go.Lib
set_option linter.unusedVariables false

def aA (t : List Nd) (i : Nat) : Int := (t.getD i default).a
def bA (t : List Nd) (i : Nat) : Int := (t.getD i default).b

/-- A of the first nodes of some ops, in their order. -/
def tdN (t : List Nd) (p : Int → Bool) : Nat → List Int
  | 0 => []
  | k + 1 => tdN t p k ++ (if p (opA t k) then [aA t k] else [])
theorem tdN_len (t : List Nd) (p : Int → Bool) : ∀ k, (tdN t p k).length ≤ k
  | 0 => Nat.le_refl _
  | k + 1 => by
    have := tdN_len t p k
    rw [tdN, List.length_append]
    split
    · simp; omega
    · simp; omega
theorem tdN_mem (t : List Nd) (p : Int → Bool) (x : Int) : ∀ k, x ∈ tdN t p k ↔ ∃ i, i < k ∧ p (opA t i) = true ∧ aA t i = x
  | 0 => by simp [tdN]
  | k + 1 => by
    rw [tdN, List.mem_append, tdN_mem t p x k]
    constructor
    · rintro (⟨i, h1, h2, h3⟩ | h)
      · exact ⟨i, by omega, h2, h3⟩
      · by_cases hp : p (opA t k) = true
        · rw [if_pos hp] at h
          exact ⟨k, by omega, hp, (List.mem_singleton.1 h).symm⟩
        · rw [if_neg hp] at h
          simp at h
    · rintro ⟨i, h1, h2, h3⟩
      by_cases e : i = k
      · subst e
        right
        rw [if_pos h2]
        simp [h3]
      · left
        exact ⟨i, by omega, h2, h3⟩

/-- Is a key among those of the first nodes? -/
def isN (t : List Nd) (p : Int → Bool) (m : Nat) : Nat → Bool
  | 0 => false
  | i + 1 => isN t p m i || (p (opA t i) && decide (aA t i = (m : Int)))
theorem isN_iff (t : List Nd) (p : Int → Bool) (m : Nat) : ∀ k, isN t p m k = true ↔ ∃ i, i < k ∧ p (opA t i) = true ∧ aA t i = (m : Int)
  | 0 => by simp [isN]
  | k + 1 => by
    rw [isN, Bool.or_eq_true, isN_iff t p m k, Bool.and_eq_true, decide_eq_true_eq]
    constructor
    · rintro (⟨i, h1, h2, h3⟩ | ⟨h2, h3⟩)
      · exact ⟨i, by omega, h2, h3⟩
      · exact ⟨k, by omega, h2, h3⟩
    · rintro ⟨i, h1, h2, h3⟩
      by_cases e : i = k
      · subst e; exact .inr ⟨h2, h3⟩
      · exact .inl ⟨i, by omega, h2, h3⟩
/-- The keys of nodes of some ops, rising. -/
def kyN (t : List Nd) (p : Int → Bool) : Nat → List Int
  | 0 => []
  | m + 1 => kyN t p m ++ (if isN t p m t.length then [(m : Int)] else [])
theorem kyN_len (t : List Nd) (p : Int → Bool) : ∀ k, (kyN t p k).length ≤ k
  | 0 => Nat.le_refl _
  | k + 1 => by
    have := kyN_len t p k
    rw [kyN, List.length_append]
    split
    · simp; omega
    · simp; omega
theorem kyN_mem (t : List Nd) (p : Int → Bool) (x : Int) : ∀ k, x ∈ kyN t p k ↔ ∃ m : Nat, m < k ∧ x = (m : Int) ∧ isN t p m t.length = true
  | 0 => by simp [kyN]
  | k + 1 => by
    rw [kyN, List.mem_append, kyN_mem t p x k]
    constructor
    · rintro (⟨i, h1, h2, h3⟩ | h)
      · exact ⟨i, by omega, h2, h3⟩
      · by_cases hp : isN t p k t.length = true
        · rw [if_pos hp] at h
          exact ⟨k, by omega, by simpa using h, hp⟩
        · rw [if_neg hp] at h
          simp at h
    · rintro ⟨i, h1, h2, h3⟩
      by_cases e : i = k
      · subst e
        right
        rw [if_pos h3]
        simp [h2]
      · left
        exact ⟨i, by omega, h2, h3⟩
theorem kyN_lt (t : List Nd) (p : Int → Bool) : ∀ k, (kyN t p k).Pairwise (· < ·)
  | 0 => List.Pairwise.nil
  | k + 1 => by
    rw [kyN]
    refine List.pairwise_append.2 ⟨kyN_lt t p k, ?_, fun x hx y hy => ?_⟩
    · split
      · exact List.pairwise_singleton _ _
      · exact List.Pairwise.nil
    · obtain ⟨m, h1, h2, _⟩ := (kyN_mem t p x k).1 hx
      by_cases hp : isN t p k t.length = true
      · rw [if_pos hp] at hy
        have : y = (k : Int) := by simpa using hy
        omega
      · rw [if_neg hp] at hy
        simp at hy

theorem get_bang (zs : List Int) (j : Nat) (h : j < zs.length) : zs.toArray[j]! = zs[j] := by simp [h]
theorem compact_mem (zs : List Int) (x : Int) : x ∈ Lib.compact zs ↔ x ∈ zs := by
  have key : ∀ j, ∀ hj : j < zs.length, zs[j] = x → x ∈ Lib.compact zs := by
    intro j
    induction j using Nat.strongRecOn with
    | ind j ih =>
      intro hj hx
      by_cases hk : Lib.keeps zs.toArray j = true
      · unfold Lib.compact Lib.compactUpTo
        refine List.mem_map.2 ⟨j, List.mem_filter.2 ⟨List.mem_range.2 hj, hk⟩, ?_⟩
        rw [get_bang _ _ hj]; exact hx
      · have h2 : ¬ (j = 0 ∨ zs.toArray[j]! ≠ zs.toArray[j - 1]!) := by
          intro h; exact hk (by unfold Lib.keeps; exact decide_eq_true h)
        have h3 : j ≠ 0 := fun e => h2 (.inl e)
        have h4 : zs.toArray[j]! = zs.toArray[j - 1]! := by
          by_cases h : zs.toArray[j]! = zs.toArray[j - 1]!
          · exact h
          · exact absurd (.inr h) h2
        rw [get_bang _ _ hj, get_bang _ _ (by omega)] at h4
        exact ih (j - 1) (by omega) (by omega) (by rw [← h4]; exact hx)
  constructor
  · intro h
    unfold Lib.compact Lib.compactUpTo at h
    obtain ⟨j, h1, rfl⟩ := List.mem_map.1 h
    have h2 := List.mem_range.1 (List.mem_filter.1 h1).1
    rw [get_bang _ _ h2]
    exact List.getElem_mem h2
  · intro h
    obtain ⟨j, hj, hx⟩ := List.getElem_of_mem h
    exact key j hj hx
theorem compact_lt (zs : List Int) (hs : zs.Pairwise (· ≤ ·)) : (Lib.compact zs).Pairwise (· < ·) := by
  unfold Lib.compact Lib.compactUpTo
  rw [List.pairwise_map]
  have hle : ∀ i j, ∀ hi : i < zs.length, ∀ hj : j < zs.length, i ≤ j → zs[i] ≤ zs[j] := fun i j hi hj h => by
    rcases Nat.lt_or_eq_of_le h with h | rfl
    · exact List.pairwise_iff_getElem.1 hs i j hi hj h
    · exact Int.le_refl _
  refine List.Pairwise.imp_of_mem ?_ (List.Pairwise.filter _ List.pairwise_lt_range)
  intro i j hi hj hij
  have h1 := List.mem_range.1 (List.mem_filter.1 hi).1
  have h2 := List.mem_range.1 (List.mem_filter.1 hj).1
  have h3 := (List.mem_filter.1 hj).2
  have h4 : j = 0 ∨ zs.toArray[j]! ≠ zs.toArray[j - 1]! := by simpa [Lib.keeps] using h3
  rw [get_bang _ _ h2, get_bang _ _ (by omega)] at h4
  rw [get_bang _ _ h1, get_bang _ _ h2]
  have h5 := hle i (j - 1) h1 (by omega) (by omega)
  have h6 := hle (j - 1) j (by omega) h2 (by omega)
  rcases h4 with h4 | h4
  · omega
  · omega
theorem lt_ext {l l' : List Int} (h : l.Pairwise (· < ·)) (h' : l'.Pairwise (· < ·)) (hm : ∀ x, x ∈ l ↔ x ∈ l') : l = l' := by
  refine List.Perm.eq_of_pairwise (le := (· < ·)) (fun a b _ _ h1 h2 => by omega) h h' ?_
  refine (List.perm_ext_iff_of_nodup (h.imp (fun h => by omega)) (h'.imp (fun h => by omega))).2 hm
theorem sort_le (zs : List Int) : (zs.mergeSort fun x y => decide (x ≤ y)).Pairwise (· ≤ ·) :=
  (List.pairwise_mergeSort (le := fun x y : Int => decide (x ≤ y)) (fun a b c h1 h2 => by simp at *; omega) (fun a b => by simp; omega) zs).imp (fun h => by simpa using h)
theorem keys_of {t : List Nd} {p : Int → Bool} (h : ∀ i, i < t.length → p (opA t i) = true → 0 ≤ aA t i ∧ aA t i < 64) :
    Lib.compact ((tdN t p t.length).mergeSort fun x y => decide (x ≤ y)) = kyN t p 64 := by
  refine lt_ext (compact_lt _ (sort_le _)) (kyN_lt _ _ _) (fun x => ?_)
  rw [compact_mem, (List.mergeSort_perm _ _).mem_iff, tdN_mem, kyN_mem]
  constructor
  · rintro ⟨i, h1, h2, h3⟩
    obtain ⟨h4, h5⟩ := h i h1 h2
    exact ⟨x.toNat, by omega, by omega, (isN_iff _ _ _ _).2 ⟨i, h1, h2, by omega⟩⟩
  · rintro ⟨m, h1, h2, h3⟩
    obtain ⟨i, h4, h5, h6⟩ := (isN_iff _ _ _ _).1 h3
    exact ⟨i, h4, h5, by omega⟩
theorem kyN_congr {t : List Nd} {p q : Int → Bool} (h : p = q) (k : Nat) : kyN t p k = kyN t q k := by rw [h]

/-- The last day that the first nodes tell; -1: none. -/
def hzN (t : List Nd) : Nat → Int
  | 0 => -1
  | k + 1 => if opA t k = 14 then max (hzN t k) (aA t k) else if opA t k = 17 then max (hzN t k) (bA t k) else hzN t k

/-- What a contract's fields are. -/
theorem fld_key {t : List Nd} (h : ∀ p, p < t.length → fldO (t.getD p default) = true) {i : Nat} (hi : i < t.length) (ho : opA t i = 2 ∨ opA t i = 16 ∨ opA t i = 17) : 0 ≤ aA t i ∧ aA t i < 64 := by
  have hf := h i hi
  unfold fldO at hf
  have h1 : fldA (ixO (t.getD i default).op) (t.getD i default) = true := by
    rw [Bool.and_eq_true, Bool.and_eq_true] at hf; exact hf.1.1
  have h2 : (t.getD i default).op = opA t i := rfl
  unfold fldA at h1
  rw [h2, decide_eq_true_eq] at h1
  unfold aA
  obtain ⟨h3, h4⟩ := h1
  rcases ho with e | e | e
  · rw [e, show maN (ixO 2) = 63 by decide] at h4; exact ⟨h3, by omega⟩
  · rw [e, show maN (ixO 16) = 63 by decide] at h4; exact ⟨h3, by omega⟩
  · rw [e, show maN (ixO 17) = 63 by decide] at h4; exact ⟨h3, by omega⟩

end Go.Proofs.YtadjhofomabbmaaDoor

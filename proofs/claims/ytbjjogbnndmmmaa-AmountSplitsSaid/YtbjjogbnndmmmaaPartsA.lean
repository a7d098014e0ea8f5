/-
  Plain numbers: what follows for parts: they come to the total, a weight of nought has no part, a greater weight no less. No program.
-/
import Derived.Test.YtbjjogbnndmmmaaShare
namespace Go.Proofs.Ytbjjogbnndmmmaa
open Go.Sort
set_option linter.unusedVariables false

/-- How often a place is among the first of an order. -/
def occ (d : Array Int) : Nat → Nat → Int
  | 0, _ => 0
  | k + 1, t => occ d k t + if (t : Int) = d[k]! then 1 else 0

theorem addK_occ (P : Nat → Int) (d : Array Int) (t : Nat) : ∀ k, addK P d k t = P t + occ d k t
  | 0 => by simp [addK, occ]
  | k + 1 => by
    show addK P d k t + (if (t : Int) = d[k]! then 1 else 0) = P t + (occ d k t + if (t : Int) = d[k]! then 1 else 0)
    rw [addK_occ P d t k]; omega

theorem sumF_add (f g : Nat → Int) : ∀ n, sumF (fun t => f t + g t) n = sumF f n + sumF g n
  | 0 => by simp [sumF]
  | n + 1 => by simp only [sumF]; rw [sumF_add f g n]; omega
theorem sumF_congr {f g : Nat → Int} : ∀ n, (∀ t, t < n → f t = g t) → sumF f n = sumF g n
  | 0, _ => rfl
  | n + 1, h => by simp only [sumF]; rw [sumF_congr n (fun t ht => h t (by omega)), h n (by omega)]
theorem sumF_le {f g : Nat → Int} : ∀ n, (∀ t, t < n → f t ≤ g t) → sumF f n ≤ sumF g n
  | 0, _ => Int.le_refl _
  | n + 1, h => by simp only [sumF]; have := sumF_le n (fun t ht => h t (by omega)); have := h n (by omega); omega
theorem sumF_mul (c : Int) (f : Nat → Int) : ∀ n, sumF (fun t => c * f t) n = c * sumF f n
  | 0 => by simp [sumF]
  | n + 1 => by simp only [sumF]; rw [sumF_mul c f n, Int.mul_add]
theorem sumF_one (c : Int) : ∀ n : Nat, sumF (fun t => if (t : Int) = c then 1 else 0) n = if 0 ≤ c ∧ c < n then 1 else 0
  | 0 => by simp only [sumF]; rw [if_neg (by omega)]
  | n + 1 => by
    simp only [sumF]; rw [sumF_one c n]
    by_cases e : (n : Int) = c
    · rw [if_pos e, if_neg (by omega), if_pos (by omega)]; omega
    · rw [if_neg e]
      by_cases h : 0 ≤ c ∧ c < n
      · rw [if_pos h, if_pos (by omega)]; omega
      · rw [if_neg h, if_neg (by omega)]; omega

theorem sum_occ (d : Array Int) (n : Nat) : ∀ k : Nat, (∀ i : Nat, i < k → 0 ≤ d[i]! ∧ d[i]! < (n : Int)) → sumF (occ d k) n = k
  | 0, _ => by
    have : ∀ n, sumF (occ d 0) n = 0 := fun n => by induction n with
      | zero => rfl
      | succ n ih => simp only [sumF]; rw [ih]; simp [occ]
    rw [this]; rfl
  | k + 1, h => by
    have e : occ d (k + 1) = fun t => occ d k t + (fun t : Nat => if (t : Int) = d[k]! then (1 : Int) else 0) t := by funext t; rfl
    rw [e, sumF_add, sum_occ d n k (fun i hi => h i (by omega)), sumF_one, if_pos (h k (by omega))]
    omega

theorem occ_nonneg (d : Array Int) (t : Nat) : ∀ k, 0 ≤ occ d k t
  | 0 => Int.le_refl _
  | k + 1 => by simp only [occ]; have := occ_nonneg d t k; split <;> omega
theorem occ_mono (d : Array Int) (t : Nat) {j k : Nat} (h : j ≤ k) : occ d j t ≤ occ d k t := by
  induction k with
  | zero => obtain rfl : j = 0 := by omega
            exact Int.le_refl _
  | succ k ih =>
    by_cases e : j = k + 1
    · subst e; exact Int.le_refl _
    · have := ih (by omega); simp only [occ]; split <;> omega
theorem occ_none (d : Array Int) (t : Nat) : ∀ k : Nat, (∀ j : Nat, j < k → d[j]! ≠ (t : Int)) → occ d k t = 0
  | 0, _ => rfl
  | k + 1, h => by simp only [occ]; rw [occ_none d t k (fun j hj => h j (by omega)), if_neg (fun e => h k (by omega) e.symm)]; rfl
theorem occ_pos {d : Array Int} {t j k : Nat} (hj : j < k) (h : d[j]! = (t : Int)) : 1 ≤ occ d k t := by
  have h1 : occ d (j + 1) t ≤ occ d k t := occ_mono d t hj
  have h2 := occ_nonneg d t j
  have h3 : occ d (j + 1) t = occ d j t + 1 := by simp only [occ]; rw [if_pos h.symm]
  omega

/-- No two places of the order hold the same. -/
def Inj (d : Array Int) (n : Nat) : Prop := ∀ i j : Nat, i < j → j < n → d[i]! ≠ d[j]!
theorem occ_le {d : Array Int} {n : Nat} (hi : Inj d n) (t : Nat) : ∀ k, k ≤ n → occ d k t ≤ 1
  | 0, _ => by simp [occ]
  | k + 1, h => by
    simp only [occ]
    by_cases e : (t : Int) = d[k]!
    · rw [if_pos e, occ_none d t k (fun j hj e' => hi j k hj (by omega) (by rw [e', e]))]; omega
    · rw [if_neg e]; have := occ_le hi t k (by omega); omega
theorem occ_ex {d : Array Int} {t : Nat} : ∀ k : Nat, 1 ≤ occ d k t → ∃ j : Nat, j < k ∧ d[j]! = (t : Int)
  | 0, h => by simp [occ] at h
  | k + 1, h => by
    by_cases e : (t : Int) = d[k]!
    · exact ⟨k, by omega, e.symm⟩
    · simp only [occ] at h; rw [if_neg e] at h
      obtain ⟨j, h1, h2⟩ := occ_ex (d := d) (t := t) k (by omega)
      exact ⟨j, by omega, h2⟩

/-- Each place stands somewhere in the order. -/
theorem occ_all {d : Array Int} {n : Nat} (hi : Inj d n) (hr : ∀ i : Nat, i < n → 0 ≤ d[i]! ∧ d[i]! < (n : Int)) {t : Nat} (ht : t < n) : occ d n t = 1 := by
  have hs := sum_occ d n n hr
  have key : ∀ m, m ≤ n → sumF (occ d n) m ≤ m := fun m hm => by
    induction m with
    | zero => exact Int.le_refl _
    | succ m ih => simp only [sumF]; have := ih (by omega); have := occ_le hi m n (Nat.le_refl _); omega
  have key2 : ∀ m, t < m → m ≤ n → sumF (occ d n) m ≤ (m : Int) - (1 - occ d n t) := fun m h1 h2 => by
    induction m with
    | zero => omega
    | succ m ih =>
      simp only [sumF]
      by_cases e : t = m
      · subst e; have := key t (by omega); omega
      · have := ih (by omega) (by omega); have := occ_le hi m n (Nat.le_refl _); omega
  have h1 := key2 n ht (Nat.le_refl _)
  have h2 := occ_le hi t n (Nat.le_refl _)
  omega

theorem Ordered.inj {T : Int} {l : List Int} {d : Array Int} (h : Ordered T l d) : Inj d l.length := fun i j h1 h2 => h.2.1.ne (Nat.zero_le _) h1 h2
theorem Ordered.rng {T : Int} {l : List Int} {d : Array Int} (h : Ordered T l d) : ∀ i : Nat, i < l.length → 0 ≤ d[i]! ∧ d[i]! < (l.length : Int) := fun i hi => by
  have := h.2.2 i (Nat.zero_le _) hi; omega

theorem partF_sum {T : Int} {l : List Int} {d : Array Int} (h : Ordered T l d) (hT : 0 ≤ T) (hS : 0 < sumL l) (hn : NonNeg l) (h0 : 0 < l.length) : sumF (partF T l d) l.length = T := by
  have hl := left_lt hT hS hn h0
  have e : partF T l d = fun t => qF T (sumL l) l t + occ d (T - sumF (qF T (sumL l) l) l.length).toNat t := by funext t; exact addK_occ _ _ _ _
  rw [e, sumF_add, sum_occ d l.length _ (fun i hi => h.rng i (by omega))]
  omega

theorem partF_zero {T : Int} {l : List Int} {d : Array Int} (h : Ordered T l d) (hT : 0 ≤ T) (hS : 0 < sumL l) (hn : NonNeg l) (h0 : 0 < l.length) {t : Nat} (ht : t < l.length) (hw : l.getD t 0 = 0) : partF T l d t = 0 := by
  have hl := left_lt hT hS hn h0
  have hq : qF T (sumL l) l t = 0 := by unfold qF; rw [hw]; simp
  have hr : rF T (sumL l) l t = 0 := by unfold rF; rw [hw]; simp
  unfold partF
  rw [addK_occ, hq]
  have e2 : sumL l * (T - sumF (qF T (sumL l) l) l.length) = sumF (rF T (sumL l) l) l.length := by
    have e := parts_eq T (sumL l) l l.length
    rw [Int.mul_sub, Int.mul_comm (sumL l) T]
    have : T * sumK l l.length = T * sumL l := rfl
    omega
  generalize hL : T - sumF (qF T (sumL l) l) l.length = L at *
  generalize hSg : sumL l = S at *
  suffices hz : occ d L.toNat t = 0 by omega
  apply occ_none
  intro j hj ej
  have hcap : ∀ u, u < l.length → rF T S l u ≤ (S - 1) * occ d j u := fun u hu => by
    obtain ⟨i, hi, ei⟩ := occ_ex l.length (by rw [occ_all h.inj h.rng hu]; exact Int.le_refl _)
    have hrb := rF_bd (T := T) (l := l) (S := S) hS u
    have hnn := occ_nonneg d u j
    by_cases c : i < j
    · have := occ_pos c ei
      have h2 : (S - 1) * 1 ≤ (S - 1) * occ d j u := Int.mul_le_mul_of_nonneg_left this (by omega)
      omega
    · have hz : rF T S l u = 0 := by
        by_cases e : i = j
        · subst e; have : u = t := by have := ei.symm.trans ej; omega
          rw [this]; exact hr
        · have hp := h.2.1 j i (Nat.zero_le _) (by omega) hi
          rw [ej, ei] at hp
          unfold pr at hp
          simp only [Int.toNat_natCast] at hp
          rw [hSg] at hp
          rw [hr] at hp
          omega
      rw [hz]; exact Int.mul_nonneg (by omega) hnn
  have h1 := sumF_le l.length hcap
  rw [sumF_mul, sum_occ d l.length j (fun i hi => h.rng i (by omega)), ← e2] at h1
  have hjl : (j : Int) ≤ L - 1 := by omega
  have h2 : (S - 1) * (j : Int) ≤ (S - 1) * (L - 1) := Int.mul_le_mul_of_nonneg_left hjl (by omega)
  have h3 : (S - 1) * (L - 1) = S * L - S - (L - 1) := by rw [Int.sub_mul, Int.mul_sub, Int.mul_one, Int.one_mul]
  omega

theorem partF_mono {T : Int} {l : List Int} {d : Array Int} (h : Ordered T l d) (hT : 0 < T) (hS : 0 < sumL l) (hn : NonNeg l) (h0 : 0 < l.length) {i k : Nat} (hi : i < l.length) (hk : k < l.length) (hw : l.getD k 0 < l.getD i 0) :
    partF T l d k ≤ partF T l d i := by
  have hl := left_lt (show 0 ≤ T by omega) hS hn h0
  unfold partF
  rw [addK_occ, addK_occ]
  generalize hLl : (T - sumF (qF T (sumL l) l) l.length).toNat = K at *
  have hKn : K ≤ l.length := by omega
  have o1 := occ_le h.inj k K hKn
  have o2 := occ_nonneg d i K
  have hm : T * l.getD k 0 < T * l.getD i 0 := Int.mul_lt_mul_of_pos_left hw hT
  have hq : qF T (sumL l) l k ≤ qF T (sumL l) l i := Int.ediv_le_ediv hS (by omega)
  by_cases e : qF T (sumL l) l k = qF T (sumL l) l i
  · have hr : rF T (sumL l) l k < rF T (sumL l) l i := by
      have a1 := Int.mul_ediv_add_emod (T * l.getD k 0) (sumL l)
      have a2 := Int.mul_ediv_add_emod (T * l.getD i 0) (sumL l)
      have e' : sumL l * (T * l.getD k 0 / sumL l) = sumL l * (T * l.getD i 0 / sumL l) := by
        show sumL l * qF T (sumL l) l k = sumL l * qF T (sumL l) l i
        rw [e]
      unfold rF; omega
    by_cases c : 1 ≤ occ d K k
    · obtain ⟨jk, h1, h2⟩ := occ_ex K c
      obtain ⟨ji, h3, h4⟩ := occ_ex l.length (by rw [occ_all h.inj h.rng hi]; exact Int.le_refl _)
      have hlt : ji < jk := by
        rcases Nat.lt_trichotomy ji jk with g | g | g
        · exact g
        · subst g; have : i = k := by have := h4.symm.trans h2; omega
          subst this; omega
        · have hp := h.2.1 jk ji (Nat.zero_le _) g h3
          rw [h2, h4] at hp
          unfold pr at hp
          simp only [Int.toNat_natCast] at hp
          omega
      have := occ_pos (show ji < K by omega) h4
      omega
    · have := occ_nonneg d k K; omega
  · omega

end Go.Proofs.Ytbjjogbnndmmmaa

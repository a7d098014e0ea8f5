/-
  Plain lists of bits, the least one first: what they are worth, and the one list without noughts at its end. No program.
-/
import Derived.Test.YtedjbmmegjgegaaSum
namespace Go.Proofs.Ytedjbmmegjgegaa
set_option linter.unusedVariables false

def val : List Int → Nat
  | [] => 0
  | x :: l => x.toNat + 2 * val l
def IsBits (l : List Int) : Prop := ∀ t, l.getD t 0 = 0 ∨ l.getD t 0 = 1
def Canon (l : List Int) : Prop := l = [] ∨ l.getD (l.length - 1) 0 ≠ 0

def bitsN (n : Nat) : List Int := if h : n = 0 then [] else ((n % 2 : Nat) : Int) :: bitsN (n / 2)
termination_by n
decreasing_by omega

theorem bitsN_zero : bitsN 0 = [] := by rw [bitsN]; simp
theorem bitsN_pos {n : Nat} (h : n ≠ 0) : bitsN n = ((n % 2 : Nat) : Int) :: bitsN (n / 2) := by rw [bitsN]; simp [h]

theorem IsBits.tail {x : Int} {l : List Int} (h : IsBits (x :: l)) : IsBits l := fun t => by have := h (t + 1); simpa using this
theorem IsBits.head {x : Int} {l : List Int} (h : IsBits (x :: l)) : x = 0 ∨ x = 1 := by have := h 0; simpa using this
theorem IsBits.nil : IsBits [] := fun t => Or.inl (by simp)
theorem IsBits.cons {x : Int} {l : List Int} (hx : x = 0 ∨ x = 1) (h : IsBits l) : IsBits (x :: l) := fun t => by
  cases t with
  | zero => simpa using hx
  | succ t => have := h t; simpa using this
theorem IsBits.snoc {x : Int} {l : List Int} (h : IsBits l) (hx : x = 0 ∨ x = 1) : IsBits (l ++ [x]) := fun t => by
  rw [List.getD_eq_getElem?_getD, List.getElem?_append]
  split
  · have := h t; rwa [List.getD_eq_getElem?_getD] at this
  · by_cases e : t - l.length = 0
    · rw [e]; simpa using hx
    · rw [List.getElem?_eq_none (by simp; omega)]; exact Or.inl rfl
theorem IsBits.drop {l : List Int} (h : IsBits l) (i : Nat) : IsBits (l.drop i) := fun t => by
  have := h (i + t); rwa [List.getD_eq_getElem?_getD, ← List.getElem?_drop, ← List.getD_eq_getElem?_getD] at this
theorem IsBits.take {l : List Int} (h : IsBits l) (i : Nat) : IsBits (l.take i) := fun t => by
  rw [List.getD_eq_getElem?_getD, List.getElem?_take]
  split
  · have := h t; rwa [List.getD_eq_getElem?_getD] at this
  · exact Or.inl rfl

theorem bits_of_bitsN : ∀ n, IsBits (bitsN n) := by
  intro n
  induction n using Nat.strongRecOn with
  | _ n ih =>
    by_cases h : n = 0
    · rw [h, bitsN_zero]; exact IsBits.nil
    · rw [bitsN_pos h]; exact IsBits.cons (by omega) (ih _ (by omega))
theorem val_bitsN : ∀ n, val (bitsN n) = n := by
  intro n
  induction n using Nat.strongRecOn with
  | _ n ih =>
    by_cases h : n = 0
    · rw [h, bitsN_zero]; rfl
    · rw [bitsN_pos h, val, ih _ (by omega)]; omega
theorem bitsN_len : ∀ k n, n < 2 ^ k → (bitsN n).length ≤ k
  | 0, n, h => by
    have : n = 0 := by simpa using h
    rw [this, bitsN_zero]; simp
  | k + 1, n, h => by
    by_cases e : n = 0
    · rw [e, bitsN_zero]; simp
    · rw [bitsN_pos e]; have := bitsN_len k (n / 2) (by rw [Nat.pow_succ] at h; omega); simp; omega
theorem bitsN_nil {n : Nat} (h : bitsN n = []) : n = 0 := by have := val_bitsN n; rw [h] at this; exact this.symm
theorem canon_cons {x : Int} {l : List Int} (h : Canon (x :: l)) (hl : l ≠ []) : Canon l := by
  rcases h with h | h
  · cases h
  · right
    have : l.length ≠ 0 := fun e => hl (List.length_eq_zero_iff.1 e)
    obtain ⟨m, hm⟩ : ∃ m, l.length = m + 1 := ⟨l.length - 1, by omega⟩
    simp only [List.length_cons, hm, Nat.add_sub_cancel] at h ⊢
    simpa using h
/-- There is one list of bits of a worth without noughts at its end. -/
theorem canon_eq : ∀ l, IsBits l → Canon l → l = bitsN (val l)
  | [], _, _ => by rw [val, bitsN_zero]
  | x :: l, hb, hc => by
    by_cases hl : l = []
    · subst hl
      have hx := hb.head
      have : x ≠ 0 := by rcases hc with h | h
                         · cases h
                         · simpa using h
      have e : x = 1 := by omega
      subst e
      show [1] = bitsN 1
      rw [bitsN_pos (by omega), show (1 / 2 : Nat) = 0 from rfl, bitsN_zero]; rfl
    · have ih := canon_eq l hb.tail (canon_cons hc hl)
      have hv : val l ≠ 0 := fun e => by rw [e, bitsN_zero] at ih; exact hl ih
      have hx := hb.head
      show x :: l = bitsN (x.toNat + 2 * val l)
      rw [bitsN_pos (by omega), show (x.toNat + 2 * val l) / 2 = val l from by omega, ← ih]
      congr 1; omega
theorem canon_bitsN (n : Nat) : Canon (bitsN n) := by
  induction n using Nat.strongRecOn with
  | _ n ih =>
    by_cases h : n = 0
    · rw [h, bitsN_zero]; exact Or.inl rfl
    · right
      rw [bitsN_pos h]
      by_cases e : n / 2 = 0
      · rw [e, bitsN_zero]
        have : n = 1 := by omega
        subst this; simp
      · have hne : bitsN (n / 2) ≠ [] := fun g => e (bitsN_nil g)
        rcases ih (n / 2) (by omega) with g | g
        · exact absurd g hne
        · have : (bitsN (n / 2)).length ≠ 0 := fun g => hne (List.length_eq_zero_iff.1 g)
          obtain ⟨m, hm⟩ : ∃ m, (bitsN (n / 2)).length = m + 1 := ⟨(bitsN (n / 2)).length - 1, by omega⟩
          simp only [List.length_cons, hm, Nat.add_sub_cancel] at g ⊢
          simpa using g

theorem val_snoc (l : List Int) (x : Int) : val (l ++ [x]) = val l + 2 ^ l.length * x.toNat := by
  induction l with
  | nil => simp [val]
  | cons y l ih => simp only [List.cons_append, val, ih, List.length_cons, Nat.pow_succ]; rw [Nat.mul_add, Nat.mul_comm (2 ^ l.length) 2, Nat.mul_assoc]; omega
theorem val_drop (l : List Int) (i : Nat) : val (l.drop i) = (l.getD i 0).toNat + 2 * val (l.drop (i + 1)) := by
  by_cases h : i < l.length
  · rw [List.drop_eq_getElem_cons h, val, List.getD_eq_getElem?_getD, List.getElem?_eq_getElem h]; rfl
  · rw [List.drop_eq_nil_of_le (by omega), List.drop_eq_nil_of_le (by omega), List.getD_eq_getElem?_getD, List.getElem?_eq_none (by omega)]; rfl
theorem val_lt {l : List Int} (h : IsBits l) : val l < 2 ^ l.length := by
  induction l with
  | nil => simp [val]
  | cons x l ih =>
    have := ih h.tail; have := h.head
    simp only [val, List.length_cons, Nat.pow_succ]; omega
theorem val_split (l : List Int) : ∀ i, i ≤ l.length → val l = val (l.take i) + 2 ^ i * val (l.drop i) := by
  induction l with
  | nil => intro i hi; simp at hi; subst hi; simp [val]
  | cons x l ih =>
    intro i hi
    cases i with
    | zero => simp [val]
    | succ i =>
      have := ih i (by simpa using hi)
      simp only [List.take_succ_cons, List.drop_succ_cons, val, Nat.pow_succ]
      rw [this, Nat.mul_add, Nat.mul_comm (2 ^ i) 2, Nat.mul_assoc]; omega
theorem val_zero {l : List Int} (h : ∀ t, l.getD t 0 = 0) : val l = 0 := by
  induction l with
  | nil => rfl
  | cons x l ih =>
    have h0 := h 0
    have := ih (fun t => by have := h (t + 1); simpa using this)
    simp at h0
    simp [val, this, h0]
theorem canon_of_val {l : List Int} (hb : IsBits l) (hc : Canon l) {n : Nat} (h : val l = n) : l = bitsN n := by rw [← h]; exact canon_eq l hb hc

/-- What is left behind noughts are cut off. -/
theorem trim_eq {l : List Int} (hb : IsBits l) {n : Nat} (hn : n ≤ l.length) (hz : ∀ t, n ≤ t → t < l.length → l.getD t 0 = 0) (ht : n = 0 ∨ l.getD (n - 1) 0 ≠ 0) : l.take n = bitsN (val l) := by
  have hd : val (l.drop n) = 0 := val_zero (fun t => by
    by_cases c : n + t < l.length
    · have := hz (n + t) (by omega) c; rwa [List.getD_eq_getElem?_getD, ← List.getElem?_drop, ← List.getD_eq_getElem?_getD] at this
    · rw [List.getD_eq_getElem?_getD, List.getElem?_eq_none (by simp; omega)]; rfl)
  have hs := val_split l n hn
  rw [hd] at hs
  refine canon_of_val (hb.take n) ?_ (by omega)
  rcases ht with h | h
  · subst h; left; simp
  · by_cases e : n = 0
    · subst e; left; simp
    · right
      rw [List.length_take, Nat.min_eq_left hn, List.getD_eq_getElem?_getD, List.getElem?_take, if_pos (by omega), ← List.getD_eq_getElem?_getD]
      exact h

/-- The sign of a difference. -/
def ordZ (x y : Nat) : Int := if x < y then -1 else if y < x then 1 else 0
theorem bitsN_lt {n k : Nat} (h : (bitsN n).length ≤ k) : n < 2 ^ k := by
  have h1 := val_lt (bits_of_bitsN n)
  rw [val_bitsN] at h1
  exact Nat.lt_of_lt_of_le h1 (Nat.pow_le_pow_right (by omega) h)
theorem bitsN_ge {n : Nat} (h : bitsN n ≠ []) : 2 ^ ((bitsN n).length - 1) ≤ n := by
  rcases Nat.lt_or_ge n (2 ^ ((bitsN n).length - 1)) with g | g
  · have := bitsN_len _ _ g
    have : (bitsN n).length ≠ 0 := fun e => h (List.length_eq_zero_iff.1 e)
    omega
  · exact g
theorem len_lt {x y : Nat} (h : (bitsN x).length < (bitsN y).length) : x < y := by
  have h1 := bitsN_lt (Nat.le_refl (bitsN x).length)
  have hy : bitsN y ≠ [] := fun e => by rw [e] at h; simp at h
  have h2 := bitsN_ge hy
  have h3 : 2 ^ (bitsN x).length ≤ 2 ^ ((bitsN y).length - 1) := Nat.pow_le_pow_right (by omega) (by omega)
  omega
/-- The first bit from the top that parts two lists decides. -/
theorem top_lt {a b : List Int} (ha : IsBits a) (hb : IsBits b) (hl : a.length = b.length) {i : Nat} (hi : i < a.length) (hsame : ∀ t, i < t → a.getD t 0 = b.getD t 0) (h : a.getD i 0 < b.getD i 0) : val a < val b := by
  have e1 := val_split a i (by omega)
  have e2 := val_split b i (by omega)
  have d1 := val_drop a i
  have d2 := val_drop b i
  have hr : a.drop (i + 1) = b.drop (i + 1) := by
    apply List.ext_getElem (by simp; omega)
    intro t h1 h2
    have := hsame (i + 1 + t) (by omega)
    rw [List.getD_eq_getElem?_getD, List.getD_eq_getElem?_getD, List.getElem?_eq_getElem (by simp at h1; omega), List.getElem?_eq_getElem (by simp at h2; omega)] at this
    simpa using this
  have l1 := val_lt (ha.take i)
  rw [List.length_take, Nat.min_eq_left (by omega)] at l1
  have xa := ha i
  have xb := hb i
  rw [hr] at d1
  have za : (a.getD i 0).toNat = 0 := by omega
  have zb : (b.getD i 0).toNat = 1 := by omega
  rw [za] at d1
  rw [zb] at d2
  rw [e1, e2, d1, d2, Nat.mul_add, Nat.mul_add]
  have : 2 ^ i * 0 = 0 := Nat.mul_zero _
  have : 2 ^ i * 1 = 2 ^ i := Nat.mul_one _
  omega

end Go.Proofs.Ytedjbmmegjgegaa

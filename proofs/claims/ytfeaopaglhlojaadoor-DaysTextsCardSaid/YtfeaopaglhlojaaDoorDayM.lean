/-
  Texts of ten bytes that may be a day's: what read makes of them. No program.
-/
import Derived.Test.YtfeaopaglhlojaaDoorDayF
namespace Go.Proofs.YtfeaopaglhlojaaDoor
open Go.RowKit Go.Lib
set_option linter.unusedVariables false

/-- Is this byte as a day's text has it there? -/
def OkB (B : Nat → Nat) (j : Nat) : Prop := if j = 4 ∨ j = 7 then B j = 45 else 48 ≤ B j ∧ B j ≤ 57
instance (B : Nat → Nat) (j : Nat) : Decidable (OkB B j) := by unfold OkB; infer_instance
def partAt (j : Nat) : Nat := (if 4 < j then 1 else 0) + (if 7 < j then 1 else 0)
/-- A part's number, behind so many bytes. -/
def numP (B : Nat → Nat) (p : Nat) : Nat → Nat
  | 0 => 0
  | j + 1 => if j = 4 ∨ j = 7 then numP B p j else if partAt j = p then 10 * numP B p j + (B j - 48) else numP B p j
theorem numP_dash {B : Nat → Nat} {p j : Nat} (h : j = 4 ∨ j = 7) : numP B p (j + 1) = numP B p j := by rw [numP, if_pos h]
theorem numP_here {B : Nat → Nat} {p j : Nat} (h : ¬ (j = 4 ∨ j = 7)) (hp : partAt j = p) : numP B p (j + 1) = 10 * numP B p j + (B j - 48) := by rw [numP, if_neg h, if_pos hp]
theorem numP_else {B : Nat → Nat} {p j : Nat} (h : ¬ (j = 4 ∨ j = 7)) (hp : partAt j ≠ p) : numP B p (j + 1) = numP B p j := by rw [numP, if_neg h, if_neg hp]
theorem numP_lt {B : Nat → Nat} {p : Nat} : ∀ j, (∀ i, i < j → OkB B i) → numP B p j < 10 ^ j
  | 0, _ => by simp [numP]
  | j + 1, h => by
    have ih := numP_lt j (fun i hi => h i (by omega)) (B := B) (p := p)
    have hj := h j (by omega)
    rw [Nat.pow_succ]
    by_cases c : j = 4 ∨ j = 7
    · rw [numP_dash c]; omega
    · unfold OkB at hj
      rw [if_neg c] at hj
      by_cases c2 : partAt j = p
      · rw [numP_here c c2]; omega
      · rw [numP_else c c2]; omega
theorem numP_bd {B : Nat → Nat} {p j : Nat} (hj : j ≤ 10) (h : ∀ i, i < j → OkB B i) : numP B p j < 10000000000 :=
  Nat.lt_of_lt_of_le (numP_lt j h) (Nat.pow_le_pow_right (by decide) hj)
theorem part_lt (j : Nat) : partAt j < 3 := by unfold partAt; split <;> split <;> omega
theorem part_dash {j : Nat} (h : j = 4 ∨ j = 7) : partAt (j + 1) = partAt j + 1 := by
  rcases h with h | h <;> subst h <;> rfl
theorem part_digit {j : Nat} (h : ¬ (j = 4 ∨ j = 7)) : partAt (j + 1) = partAt j := by
  unfold partAt
  have e1 : (4 < j + 1) = (4 < j) := by simp; omega
  have e2 : (7 < j + 1) = (7 < j) := by simp; omega
  simp only [e1, e2]
theorem numP_0 (B : Nat → Nat) : numP B 0 10 = 10 * (10 * (10 * (B 0 - 48) + (B 1 - 48)) + (B 2 - 48)) + (B 3 - 48) := by simp [numP, partAt]
theorem numP_1 (B : Nat → Nat) : numP B 1 10 = 10 * (B 5 - 48) + (B 6 - 48) := by simp [numP, partAt]
theorem numP_2 (B : Nat → Nat) : numP B 2 10 = 10 * (B 8 - 48) + (B 9 - 48) := by simp [numP, partAt]

/-- A date's bytes, one by one. -/
theorem dayB_all {y m d : Nat} (hy : y < 10000) (hm : m < 100) (hd : d < 100) :
    dayB y m d 0 = 48 + y / 1000 ∧ dayB y m d 1 = 48 + y / 100 % 10 ∧ dayB y m d 2 = 48 + y / 10 % 10 ∧ dayB y m d 3 = 48 + y % 10 ∧ dayB y m d 4 = 45 ∧
    dayB y m d 5 = 48 + m / 10 ∧ dayB y m d 6 = 48 + m % 10 ∧ dayB y m d 7 = 45 ∧ dayB y m d 8 = 48 + d / 10 ∧ dayB y m d 9 = 48 + d % 10 := by
  unfold dayB addD baseB
  simp
  omega
theorem dayB_back {B : Nat → Nat} (h : ∀ i, i < 10 → OkB B i) : ∀ k, k < 10 → dayB (numP B 0 10) (numP B 1 10) (numP B 2 10) k = B k := by
  have g : ∀ i, i < 10 → ¬ (i = 4 ∨ i = 7) → 48 ≤ B i ∧ B i ≤ 57 := fun i hi hn => by have := h i hi; unfold OkB at this; rw [if_neg hn] at this; exact this
  have g4 : B 4 = 45 := by have := h 4 (by omega); unfold OkB at this; rw [if_pos (by omega)] at this; exact this
  have g7 : B 7 = 45 := by have := h 7 (by omega); unfold OkB at this; rw [if_pos (by omega)] at this; exact this
  have g0 := g 0 (by omega) (by omega)
  have g1 := g 1 (by omega) (by omega)
  have g2 := g 2 (by omega) (by omega)
  have g3 := g 3 (by omega) (by omega)
  have g5 := g 5 (by omega) (by omega)
  have g6 := g 6 (by omega) (by omega)
  have g8 := g 8 (by omega) (by omega)
  have g9 := g 9 (by omega) (by omega)
  rw [numP_0, numP_1, numP_2]
  obtain ⟨e0, e1, e2, e3, e4, e5, e6, e7, e8, e9⟩ := dayB_all (y := 10 * (10 * (10 * (B 0 - 48) + (B 1 - 48)) + (B 2 - 48)) + (B 3 - 48)) (m := 10 * (B 5 - 48) + (B 6 - 48)) (d := 10 * (B 8 - 48) + (B 9 - 48)) (by omega) (by omega) (by omega)
  intro k hk
  match k, hk with
  | 0, _ => rw [e0]; omega
  | 1, _ => rw [e1]; omega
  | 2, _ => rw [e2]; omega
  | 3, _ => rw [e3]; omega
  | 4, _ => rw [e4]; omega
  | 5, _ => rw [e5]; omega
  | 6, _ => rw [e6]; omega
  | 7, _ => rw [e7]; omega
  | 8, _ => rw [e8]; omega
  | 9, _ => rw [e9]; omega
theorem dayB_ok {y m d : Nat} (hy : y < 10000) (hm : m < 100) (hd : d < 100) : (∀ i, i < 10 → OkB (dayB y m d) i) ∧ numP (dayB y m d) 0 10 = y ∧ numP (dayB y m d) 1 10 = m ∧ numP (dayB y m d) 2 10 = d := by
  obtain ⟨e0, e1, e2, e3, e4, e5, e6, e7, e8, e9⟩ := dayB_all hy hm hd
  refine ⟨?_, ?_, ?_, ?_⟩
  · intro i hi
    unfold OkB
    match i, hi with
    | 0, _ => rw [if_neg (by omega), e0]; omega
    | 1, _ => rw [if_neg (by omega), e1]; omega
    | 2, _ => rw [if_neg (by omega), e2]; omega
    | 3, _ => rw [if_neg (by omega), e3]; omega
    | 4, _ => rw [if_pos (by omega), e4]
    | 5, _ => rw [if_neg (by omega), e5]; omega
    | 6, _ => rw [if_neg (by omega), e6]; omega
    | 7, _ => rw [if_pos (by omega), e7]
    | 8, _ => rw [if_neg (by omega), e8]; omega
    | 9, _ => rw [if_neg (by omega), e9]; omega
  · rw [numP_0, e0, e1, e2, e3]; omega
  · rw [numP_1, e5, e6]; omega
  · rw [numP_2, e8, e9]; omega

/-- The bytes of a text. -/
def bytN (l : List UInt8) (k : Nat) : Nat := (l.getD k 0).toNat
/-- Is a text written as a day's is? -/
def formB (l : List UInt8) : Bool := l.length == 10 && (List.range 10).all fun i => decide (OkB (bytN l) i)
def yOf (l : List UInt8) : Nat := numP (bytN l) 0 10
def mOf (l : List UInt8) : Nat := numP (bytN l) 1 10
def dOf (l : List UInt8) : Nat := numP (bytN l) 2 10
theorem formB_iff {l : List UInt8} : formB l = true ↔ l.length = 10 ∧ ∀ i, i < 10 → OkB (bytN l) i := by unfold formB; simp
theorem bytN_day (y m d k : Nat) (hk : k < 10) : bytN (dayL y m d) k = dayB y m d k := by
  unfold bytN
  rw [List.getD_eq_getElem?_getD, dayL_get y m d k hk]
  have := dayB_le y m d k
  show (UInt8.ofNat (dayB y m d k)).toNat = _
  rw [UInt8.toNat_ofNat']; exact Nat.mod_eq_of_lt (by omega)
theorem numP_congr {B C : Nat → Nat} {p : Nat} : ∀ j, (∀ i, i < j → B i = C i) → numP B p j = numP C p j
  | 0, _ => rfl
  | j + 1, h => by
    have ih := numP_congr j (fun i hi => h i (by omega)) (p := p)
    by_cases c : j = 4 ∨ j = 7
    · rw [numP_dash c, numP_dash c, ih]
    · by_cases c2 : partAt j = p
      · rw [numP_here c c2, numP_here c c2, ih, h j (by omega)]
      · rw [numP_else c c2, numP_else c c2, ih]
/-- A date's text is written so, and its numbers are the date's. -/
theorem form_day {y m d : Nat} (hy : y < 10000) (hm : m < 100) (hd : d < 100) : formB (dayL y m d) = true ∧ yOf (dayL y m d) = y ∧ mOf (dayL y m d) = m ∧ dOf (dayL y m d) = d := by
  obtain ⟨h1, h2, h3, h4⟩ := dayB_ok hy hm hd
  have hc : ∀ i, i < 10 → bytN (dayL y m d) i = dayB y m d i := fun i hi => bytN_day y m d i hi
  refine ⟨formB_iff.2 ⟨dayL_len y m d, fun i hi => ?_⟩, ?_, ?_, ?_⟩
  · have := h1 i hi
    unfold OkB at this ⊢
    rw [hc i hi]; exact this
  · unfold yOf; rw [numP_congr 10 hc]; exact h2
  · unfold mOf; rw [numP_congr 10 hc]; exact h3
  · unfold dOf; rw [numP_congr 10 hc]; exact h4
/-- What is written so is its numbers' text. -/
theorem day_form {l : List UInt8} (h : formB l = true) : dayL (yOf l) (mOf l) (dOf l) = l := by
  obtain ⟨h1, h2⟩ := formB_iff.1 h
  apply List.ext_getElem?
  intro k
  by_cases hk : k < 10
  · rw [dayL_get _ _ _ k hk]
    unfold yOf mOf dOf
    rw [dayB_back h2 k hk, List.getElem?_eq_getElem (by omega)]
    unfold bytN
    rw [List.getD_eq_getElem?_getD, List.getElem?_eq_getElem (by omega)]
    simp
  · rw [List.getElem?_eq_none (by rw [dayL_len]; omega), List.getElem?_eq_none (by omega)]

end Go.Proofs.YtfeaopaglhlojaaDoor

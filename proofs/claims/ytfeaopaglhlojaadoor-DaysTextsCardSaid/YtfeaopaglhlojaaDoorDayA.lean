/-
  The calendar: months' first days, the month of a day, and dates. No program.
-/
import Derived.Lib.Hide
namespace Go.Proofs.YtfeaopaglhlojaaDoor
set_option linter.unusedVariables false

def leapB (y : Nat) : Bool := (y % 4 == 0 && !(y % 100 == 0)) || y % 400 == 0
def longN (y m : Nat) : Nat := if m = 2 then (if leapB y then 29 else 28) else if m = 4 ∨ m = 6 ∨ m = 9 ∨ m = 11 then 30 else 31
/-- How many leap years are ahead of a year, counted from 2000 on. -/
def lpN (y : Nat) : Nat := (y + 3) / 4 - (y + 99) / 100 + (y + 399) / 400
def lenT : List Nat := [31, 28, 31, 30, 31, 30, 31, 31, 30, 31, 30, 31]
def headN : Nat → Nat
  | 0 => 0
  | k + 1 => headN k + lenT.getD k 0
def upN (m : Nat) : Nat := if 1 < m % 12 ∧ lpN (m / 12) < lpN (m / 12 + 1) then 1 else 0
/-- A month's first day. -/
def fstN (m : Nat) : Nat := m / 12 * 365 + lpN (m / 12) + headN (m % 12) + upN m
/-- How many days a month has. -/
def lngN (m : Nat) : Nat := longN (2000 + m / 12) (m % 12 + 1)

theorem step_all : ∀ y < 200, ∀ k < 12, fstN (12 * y + k + 1) = fstN (12 * y + k) + lngN (12 * y + k) ∧ 28 ≤ lngN (12 * y + k) ∧ lngN (12 * y + k) ≤ 31 := by decide +kernel
theorem fst_step (m : Nat) (hm : m < 2400) : fstN (m + 1) = fstN m + lngN m ∧ 28 ≤ lngN m ∧ lngN m ≤ 31 := by
  have h := step_all (m / 12) (by omega) (m % 12) (by omega)
  rw [show 12 * (m / 12) + m % 12 = m by omega] at h
  exact h
theorem fst_zero : fstN 0 = 0 := by decide +kernel
theorem fst_end : fstN 2400 = 73049 := by decide +kernel
theorem fst_add (i : Nat) : ∀ n, i + n ≤ 2400 → fstN i + 28 * n ≤ fstN (i + n)
  | 0, _ => by simp
  | n + 1, h => by
    have h1 := fst_add i n (by omega)
    have h2 := fst_step (i + n) (by omega)
    rw [show i + (n + 1) = i + n + 1 by omega]; omega
theorem fst_mono {i j : Nat} (h : i ≤ j) (hj : j ≤ 2400) : fstN i ≤ fstN j := by
  have := fst_add i (j - i) (by omega)
  rw [show i + (j - i) = j by omega] at this; omega
theorem fst_strict {i j : Nat} (h : i < j) (hj : j ≤ 2400) : fstN i < fstN j := by
  have := fst_add i (j - i) (by omega)
  rw [show i + (j - i) = j by omega] at this; omega
theorem fst_le {m : Nat} (hm : m ≤ 2400) : fstN m ≤ 73049 := by rw [← fst_end]; exact fst_mono hm (Nat.le_refl _)

def monB (d : Nat) : Nat → Nat
  | 0 => 0
  | k + 1 => if fstN (k + 1) ≤ d then k + 1 else monB d k
/-- A day's month. -/
def mon (d : Nat) : Nat := monB d 2399
theorem monB_le (d : Nat) : ∀ k, monB d k ≤ k
  | 0 => Nat.le_refl _
  | k + 1 => by
    unfold monB
    split
    · exact Nat.le_refl _
    · have := monB_le d k; omega
theorem monB_fst (d : Nat) : ∀ k, fstN (monB d k) ≤ d
  | 0 => by show fstN 0 ≤ d; rw [fst_zero]; omega
  | k + 1 => by
    unfold monB
    split
    · assumption
    · exact monB_fst d k
theorem monB_next (d : Nat) (k : Nat) : d < fstN (k + 1) → d < fstN (monB d k + 1) := by
  induction k with
  | zero => intro h; rw [show monB d 0 = 0 from rfl]; exact h
  | succ k ih =>
    intro h
    by_cases c : fstN (k + 1) ≤ d
    · rw [show monB d (k + 1) = k + 1 by rw [monB, if_pos c]]; exact h
    · rw [show monB d (k + 1) = monB d k by rw [monB, if_neg c]]; exact ih (Nat.lt_of_not_le c)
theorem mon_lt (d : Nat) : mon d < 2400 := by have := monB_le d 2399; unfold mon; omega
theorem mon_fst (d : Nat) : fstN (mon d) ≤ d := monB_fst d 2399
theorem mon_next {d : Nat} (h : d < 73049) : d < fstN (mon d + 1) := monB_next d 2399 (by rw [fst_end]; exact h)
theorem mon_eq {d m : Nat} (hm : m < 2400) (h1 : fstN m ≤ d) (h2 : d < fstN (m + 1)) : mon d = m := by
  have hd : d < 73049 := Nat.lt_of_lt_of_le h2 (fst_le (by omega))
  have a := mon_fst d
  have b := mon_next hd
  have c := mon_lt d
  rcases Nat.lt_trichotomy (mon d) m with h | h | h
  · have := fst_mono (i := mon d + 1) (j := m) (by omega) (by omega); omega
  · exact h
  · have := fst_mono (i := m + 1) (j := mon d) (by omega) (by omega); omega
/-- A month's days. -/
theorem mon_in {d m : Nat} (hm : m < 2400) (h1 : fstN m ≤ d) (h2 : d < fstN m + lngN m) : mon d = m :=
  mon_eq hm h1 (by rw [(fst_step m hm).1]; exact h2)
theorem mon_long {d : Nat} (h : d < 73049) : d < fstN (mon d) + lngN (mon d) := by
  have := mon_next h
  rw [(fst_step _ (mon_lt d)).1] at this; exact this
/-- A guess for a day's month that is not behind it. -/
theorem lp_le (y : Nat) (hy : y ≤ 200) : lpN y ≤ y := by unfold lpN; omega
theorem mon_guess {d : Nat} (h : d < 73049) : fstN (d / 366 * 12) ≤ d ∧ d / 366 * 12 < 2400 := by
  have h1 : d / 366 ≤ 199 := by omega
  refine ⟨?_, by omega⟩
  have h2 := lp_le (d / 366) (by omega)
  have e : fstN (d / 366 * 12) = d / 366 * 365 + lpN (d / 366) := by
    unfold fstN upN
    rw [show d / 366 * 12 / 12 = d / 366 by omega, show d / 366 * 12 % 12 = 0 by omega, if_neg (by omega), show headN 0 = 0 from rfl, Nat.add_zero]
  omega

/-- A day's date. -/
def yrN (d : Nat) : Nat := 2000 + mon d / 12
def moN (d : Nat) : Nat := mon d % 12 + 1
def daN (d : Nat) : Nat := d - fstN (mon d) + 1
/-- Is there such a date? -/
def IsDate (y m d : Int) : Prop := 2000 ≤ y ∧ y ≤ 2199 ∧ 1 ≤ m ∧ m ≤ 12 ∧ 1 ≤ d ∧ d ≤ longN y.toNat m.toNat
instance (y m d : Int) : Decidable (IsDate y m d) := by unfold IsDate; infer_instance
/-- A date's month, counted from the first one on, and its day. -/
def atN (y m : Int) : Nat := 12 * (y.toNat - 2000) + m.toNat - 1
def dayN (y m d : Int) : Nat := fstN (atN y m) + d.toNat - 1

theorem long_lng {y m : Int} (h0 : 2000 ≤ y) (h1 : y ≤ 2199) (h2 : 1 ≤ m) (h3 : m ≤ 12) : longN y.toNat m.toNat = lngN (atN y m) ∧ atN y m < 2400 := by
  unfold lngN atN
  refine ⟨?_, by omega⟩
  rw [show 2000 + (12 * (y.toNat - 2000) + m.toNat - 1) / 12 = y.toNat by omega, show (12 * (y.toNat - 2000) + m.toNat - 1) % 12 + 1 = m.toNat by omega]
theorem day_date {y m d : Int} (h : IsDate y m d) : dayN y m d < 73049 ∧ (yrN (dayN y m d) : Int) = y ∧ (moN (dayN y m d) : Int) = m ∧ (daN (dayN y m d) : Int) = d := by
  obtain ⟨h0, h1, h2, h3, h4, h5⟩ := h
  obtain ⟨e, hm⟩ := long_lng h0 h1 h2 h3
  rw [e] at h5
  have hs := fst_step _ hm
  have hle := fst_le (m := atN y m + 1) (by omega)
  have he : mon (dayN y m d) = atN y m := mon_in hm (by unfold dayN; omega) (by unfold dayN; omega)
  refine ⟨by unfold dayN; omega, ?_, ?_, ?_⟩
  · unfold yrN; rw [he]; unfold atN; omega
  · unfold moN; rw [he]; unfold atN; omega
  · unfold daN; rw [he]; unfold dayN; omega
theorem date_is {d : Nat} (h : d < 73049) : IsDate (yrN d) (moN d) (daN d) ∧ dayN (yrN d) (moN d) (daN d) = d := by
  have a := mon_fst d
  have b := mon_long h
  have c := mon_lt d
  have hat : atN (yrN d : Int) (moN d : Int) = mon d := by unfold atN yrN moN; omega
  have hl := long_lng (y := yrN d) (m := moN d) (by unfold yrN; omega) (by unfold yrN; omega) (by unfold moN; omega) (by unfold moN; omega)
  refine ⟨⟨by unfold yrN; omega, by unfold yrN; omega, by unfold moN; omega, by unfold moN; omega, by unfold daN; omega, ?_⟩, ?_⟩
  · rw [hl.1, hat]; unfold daN; omega
  · unfold dayN; rw [hat]; unfold daN; omega

end Go.Proofs.YtfeaopaglhlojaaDoor

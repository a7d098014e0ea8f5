/-
  Ratios as Lean's own rational numbers: what may be, what fits, and what sums, products, quotients come to.
-/
import Derived.Test.YtedjbmmegjgegaaRatA
namespace Go.Proofs.Ytedjbmmegjgegaa
open Go.RowKit
set_option linter.unusedVariables false

/-- A ratio that may be. -/
structure OkR (n d : Int) : Prop where
  d0 : 0 < d
  d1 : d ≤ 9223372036854775807
  n0 : -9223372036854775807 ≤ n
  n1 : n ≤ 9223372036854775807
  g : Int.gcd n d = 1

/-- The number that a ratio is. -/
def rat (n d : Int) : Rat := Rat.divInt n d

theorem OkR.num {n d : Int} (h : OkR n d) : (rat n d).num = n := by
  unfold rat
  rw [Rat.num_divInt, Int.gcd_comm, h.g, Int.sign_eq_one_of_pos h.d0]; simp
theorem OkR.denN {n d : Int} (h : OkR n d) : (rat n d).den = d.natAbs := by
  unfold rat
  rw [Rat.den_divInt, Int.gcd_comm, h.g, if_neg (by have := h.d0; omega)]; simp
theorem OkR.den {n d : Int} (h : OkR n d) : (((rat n d).den : Nat) : Int) = d := by rw [h.denN]; have := h.d0; omega
theorem OkR.inj {n d n' d' : Int} (h : OkR n d) (h' : OkR n' d') (e : rat n d = rat n' d') : n = n' ∧ d = d' :=
  ⟨by rw [← h.num, ← h'.num, e], by rw [← h.den, ← h'.den, e]⟩

/-- What Check tells. -/
def okB (n d : Int) : Bool := decide (0 < d) && (decide (n ≠ -9223372036854775808) && decide (Int.gcd n d = 1))
def chkE (n d : Int) : Int := if d = 0 then 12 else if okB n d then 0 else 13
theorem chkE_ok {n d : Int} (h : OkR n d) : chkE n d = 0 := by
  unfold chkE okB
  have := h.d0; have := h.n0; have := h.g
  rw [if_neg (by omega)]
  rw [decide_eq_true (show 0 < d by omega), decide_eq_true (show n ≠ -9223372036854775808 by omega), decide_eq_true h.g]; rfl
theorem chkE_zero {n d : Int} (h : chkE n d = 0) (n0 : -9223372036854775808 ≤ n) (n1 : n ≤ 9223372036854775807) (d1 : d ≤ 9223372036854775807) : OkR n d := by
  unfold chkE okB at h
  by_cases h0 : d = 0
  · rw [if_pos h0] at h; cases h
  · rw [if_neg h0] at h
    by_cases h1 : (decide (0 < d) && (decide (n ≠ -9223372036854775808) && decide (Int.gcd n d = 1))) = true
    · simp only [Bool.and_eq_true, decide_eq_true_eq] at h1
      exact ⟨h1.1, d1, by have := h1.2.1; omega, n1, h1.2.2⟩
    · rw [if_neg h1] at h; cases h
theorem chkE_cases (n d : Int) : chkE n d = 0 ∨ chkE n d = 12 ∨ chkE n d = 13 := by
  unfold chkE
  split
  · exact Or.inr (Or.inl rfl)
  · split
    · exact Or.inl rfl
    · exact Or.inr (Or.inr rfl)

/-- What is told of a number: the ratio and no error, or ErrOver. -/
def tup (a b c : Int) : Value := .tuple #[.agg #[.int .i64 a, .int .i64 b], .int .i64 c]
def fitsR (q : Rat) : Bool := decide (-9223372036854775807 ≤ q.num ∧ q.num ≤ 9223372036854775807 ∧ ((q.den : Nat) : Int) ≤ 9223372036854775807)
def rN (q : Rat) : Int := if fitsR q then q.num else 0
def rD (q : Rat) : Int := if fitsR q then ((q.den : Nat) : Int) else 0
def rE (q : Rat) : Int := if fitsR q then 0 else 11
def fitV (q : Rat) : Value := tup (rN q) (rD q) (rE q)
theorem fitsR_ok {n d : Int} (h : OkR n d) : fitsR (rat n d) = true := by
  unfold fitsR; rw [h.num, h.den]; exact decide_eq_true ⟨h.n0, h.n1, h.d1⟩
theorem okR_of {q : Rat} (h : fitsR q = true) : OkR q.num ((q.den : Nat) : Int) := by
  have h' := of_decide_eq_true h
  have := q.den_pos
  exact ⟨by omega, h'.2.2, h'.1, h'.2.1, q.reduced⟩
theorem rat_of (q : Rat) : rat q.num ((q.den : Nat) : Int) = q := Rat.num_divInt_den q
theorem fit_in {q : Rat} (h : fitsR q = true) : rN q = q.num ∧ rD q = ((q.den : Nat) : Int) ∧ rE q = 0 := by unfold rN rD rE; rw [h]; exact ⟨rfl, rfl, rfl⟩
theorem fit_out {q : Rat} (h : fitsR q = false) : rN q = 0 ∧ rD q = 0 ∧ rE q = 11 := by unfold rN rD rE; rw [h]; exact ⟨rfl, rfl, rfl⟩

/-- What lowest tells. -/
def lowV (num den e : Int) : Value := if e = 0 then (if num = -9223372036854775808 then tup 0 0 11 else tup num den 0) else tup 0 0 e

/-- A number that fits without its sign, as the wide number's through tells it. -/
def inS (n : Int) : Bool := decide (-9223372036854775807 ≤ n ∧ n ≤ 9223372036854775807)
def sN (n : Int) : Int := if inS n then n else 0
def sE (n : Int) : Int := if inS n then 0 else 11

theorem low_fit (N D : Int) (q : Rat) (hn : q.num = N) (hd : ((q.den : Nat) : Int) = D) : lowV (fitN N) (fitN D) (firstE (fitE N) (fitE D)) = fitV q := by
  have hp : 0 < D := by have := q.den_pos; omega
  unfold fitV
  by_cases h : fitsR q = true
  · obtain ⟨h1, h2, h3⟩ := fit_in h
    have h' := of_decide_eq_true h
    rw [hn, hd] at h'
    rw [h1, h2, h3, hn, hd, fitN_in ((inR_iff N).2 (by omega)), fitN_in ((inR_iff D).2 (by omega)), fitE_in ((inR_iff N).2 (by omega)), fitE_in ((inR_iff D).2 (by omega))]
    unfold lowV firstE
    rw [if_pos rfl, if_pos rfl, if_neg (by omega)]
  · have h0 : fitsR q = false := by simpa using h
    obtain ⟨h1, h2, h3⟩ := fit_out h0
    have h' := of_decide_eq_false h0
    rw [hn, hd] at h'
    rw [h1, h2, h3]
    unfold lowV firstE
    by_cases g1 : inR N = true
    · rw [fitN_in g1, fitE_in g1, if_pos rfl]
      by_cases g2 : inR D = true
      · rw [fitE_in g2, if_pos rfl]
        have := (inR_iff N).1 g1
        have := (inR_iff D).1 g2
        rw [if_pos (by omega)]
      · rw [fitE_out (by simpa using g2), if_neg (by decide)]
    · rw [fitE_out (by simpa using g1)]; rfl

theorem low_thr (N D : Int) (q : Rat) (hn : q.num = N) (hd : ((q.den : Nat) : Int) = D) : lowV (sN N) (fitN D) (firstE (sE N) (fitE D)) = fitV q := by
  have hp : 0 < D := by have := q.den_pos; omega
  unfold fitV
  by_cases h : fitsR q = true
  · obtain ⟨h1, h2, h3⟩ := fit_in h
    have h' := of_decide_eq_true h
    rw [hn, hd] at h'
    have hs : inS N = true := decide_eq_true ⟨h'.1, h'.2.1⟩
    rw [h1, h2, h3, hn, hd, fitN_in ((inR_iff D).2 (by omega)), fitE_in ((inR_iff D).2 (by omega))]
    unfold lowV firstE sN sE
    rw [hs, if_pos rfl, if_pos rfl, if_pos rfl, if_pos rfl, if_neg (by omega)]
  · have h0 : fitsR q = false := by simpa using h
    obtain ⟨h1, h2, h3⟩ := fit_out h0
    have h' := of_decide_eq_false h0
    rw [hn, hd] at h'
    rw [h1, h2, h3]
    unfold lowV firstE sN sE
    by_cases g1 : inS N = true
    · rw [g1, if_pos rfl, if_pos rfl, if_pos rfl]
      have g1' := of_decide_eq_true g1
      have g2 : inR D = false := by
        by_cases g : inR D = true
        · have := (inR_iff D).1 g; omega
        · simpa using g
      rw [fitE_out g2, if_neg (by decide)]
    · rw [show inS N = false by simpa using g1]; rfl

/-! ### The parts of sums and products -/
theorem mul_parts (a b : Rat) : (a * b).num = a.num.tdiv (Nat.gcd a.num.natAbs b.den) * b.num.tdiv (Nat.gcd b.num.natAbs a.den) ∧
    (a * b).den = (a.den / Nat.gcd b.num.natAbs a.den) * (b.den / Nat.gcd a.num.natAbs b.den) := by
  show (Rat.mul a b).num = _ ∧ (Rat.mul a b).den = _
  delta Rat.mul
  simp only [Int.divExact_eq_tdiv, Nat.divExact_eq_div, and_self]
theorem add_parts (a b : Rat) {g : Nat} (hg : g = a.den.gcd b.den) {z : Int} (hz : z = a.num * ↑(b.den / g) + b.num * ↑(a.den / g)) :
    (a + b).num = z.tdiv (z.natAbs.gcd g) ∧ (a + b).den = ((a.den / g) * b.den) / (z.natAbs.gcd g) := by
  subst hg; subst hz
  show (Rat.add a b).num = _ ∧ (Rat.add a b).den = _
  delta Rat.add; dsimp only; split
  · rename_i h
    rw [h, Nat.gcd_one_right]
    simp
  · simp only [Rat.maybeNormalize]
    split
    · rename_i h
      dsimp only
      rw [h]
      exact ⟨(Int.tdiv_one _).symm, (Nat.div_one _).symm⟩
    · simp only [Int.divExact_eq_tdiv, Nat.divExact_eq_div, and_self]

end Go.Proofs.Ytedjbmmegjgegaa

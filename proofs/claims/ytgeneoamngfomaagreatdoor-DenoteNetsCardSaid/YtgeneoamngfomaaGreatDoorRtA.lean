/-
  Package ratio's small functions: size, divisor, common, opposite, upsideDown, firstError.
-/
import Derived.Test.YtgeneoamngfomaaGreatDoorDv
import Derived.Below
import Derived.RegionTactic
import Derived.Deep.QuietTactic
import Derived.BigQuiet
import Derived.Deep.Draws
import Derived.IntWalk
namespace Go.Proofs.YtgeneoamngfomaaGreatDoor
open Go.RowKit
set_option linter.unusedVariables false

theorem rsize_any (a : Int) (w : World) (h0 : -9223372036854775808 ≤ a) (h1 : a ≤ 9223372036854775807) :
    Calls Tryz.prog 134 #[.int .i64 a] w fun e w' => e = .returned (.int .u64 (absI a)) ∧ w = w' := by
  by_cases h : a < 0
  · go_enter Tryz.func134, Tryz.ntmps134
    go_wp2
    go_ret
    exact ⟨ret_int (size_num a h0 h), rfl⟩
  · go_enter Tryz.func134, Tryz.ntmps134
    go_wp2
    go_ret
    exact ⟨ret_int (absI_nonneg (by omega)).symm, rfl⟩

theorem gcd_step (a b : Nat) : Nat.gcd b (a % b) = Nat.gcd a b := by rw [Nat.gcd_comm b, ← Nat.gcd_rec, Nat.gcd_comm]

set_option maxHeartbeats 1000000 in
theorem divisor_nat (x y : Nat) (w : World) (hx : x < 18446744073709551616) (hy : y < 18446744073709551616) :
    Calls Tryz.prog 133 #[.int .u64 x, .int .u64 y] w fun e w' => e = .returned (.int .u64 ((Nat.gcd x y : Nat) : Int)) ∧ ∃ n, w' = w.drewN n := by
  go_enter Tryz.func133, Tryz.ntmps133
  go_wp2
  go_loopw [0, 1] (fun va vb wx => ∃ a b n : Nat, va = .int .u64 a ∧ vb = .int .u64 b ∧ a < 18446744073709551616 ∧ b < 18446744073709551616 ∧ Nat.gcd a b = Nat.gcd x y ∧ wx = w.drewN n) (fun _ vb _ => (intOf vb).toNat)
  case atStart => exact ⟨x, y, 0, rfl, rfl, hx, hy, rfl, rfl⟩
  case round =>
    obtain ⟨a, b, n, rfl, rfl, ha, hb, hg, hw⟩ := hrel
    by_cases hz : b = 0
    · subst hz
      rw [Nat.gcd_zero_right] at hg
      have HG := Lib.hid hg
      have HW := Lib.hid hw
      clear hg hw
      go_wp2
      go_ret
      exact ⟨ret_int (by rw [HG.out]), n, HW.out⟩
    · have hzb : ((b : Int) == 0) = false := by simp; omega
      have hzn : ((b : Int) != 0) = true := by simp; omega
      have HG := Lib.hid hg
      have HW := Lib.hid hw
      clear hg hw
      have hpos : (0 : Int) < (b : Int) := by omega
      go_wp2
      go_region
      go_roundw
      case rel =>
        refine ⟨_, _, _, _, _, _, _, _, ?_, rfl⟩
        exact ⟨b, a % b, n + 1, rfl, by go_num, hb, by have := Nat.mod_lt a (show 0 < b by omega); omega, by rw [gcd_step]; exact HG.out, by rw [HW.out]; rfl⟩
      case measure =>
        have := Nat.mod_lt a (show 0 < b by omega)
        simp [intOf]; omega

theorem divisor_any (x y : Int) (w : World) (x0 : 0 ≤ x) (x1 : x ≤ 18446744073709551615) (y0 : 0 ≤ y) (y1 : y ≤ 18446744073709551615) :
    Calls Tryz.prog 133 #[.int .u64 x, .int .u64 y] w fun e w' => e = .returned (.int .u64 ((Int.gcd x y : Nat) : Int)) ∧ ∃ n, w' = w.drewN n := by
  obtain ⟨a, rfl⟩ := Int.eq_ofNat_of_zero_le x0
  obtain ⟨b, rfl⟩ := Int.eq_ofNat_of_zero_le y0
  exact divisor_nat a b w (by omega) (by omega)

theorem gcd_abs (a b : Int) : Int.gcd (absI a) (absI b) = Int.gcd a b := by unfold absI Int.gcd; simp

theorem common_any (a b : Int) (w : World) (a0 : -9223372036854775808 ≤ a) (a1 : a ≤ 9223372036854775807) (b0 : -9223372036854775808 ≤ b) (b1 : b ≤ 9223372036854775807) (hg : ((Int.gcd a b : Nat) : Int) ≤ 9223372036854775807) :
    Calls Tryz.prog 110 #[.int .i64 a, .int .i64 b] w fun e w' => e = .returned (.int .i64 ((Int.gcd a b : Nat) : Int)) ∧ ∃ n, w' = w.drewN n := by
  obtain ⟨sa0, sa1⟩ := absI_bd a a0 a1
  obtain ⟨sb0, sb1⟩ := absI_bd b b0 b1
  have HD := Lib.hid (fun w => gcd_abs a b ▸ divisor_any (absI a) (absI b) w sa0 (by omega) sb0 (by omega))
  obtain ⟨g, hgg⟩ : ∃ g : Nat, g = Int.gcd a b := ⟨_, rfl⟩
  rw [← hgg] at HD hg ⊢
  clear hgg
  go_enter Tryz.func110, Tryz.ntmps110
  go_wp2_with (first | (go_at_call 134; refine (rsize_any _ _ (by omega) (by omega)).mono ?_; rintro e w' ⟨rfl, rfl⟩) | (go_at_call 133; refine (HD.out _).mono ?_; rintro e w' ⟨rfl, n, rfl⟩))
  go_ret
  exact ⟨rfl, _, rfl⟩

theorem opposite_any (n d : Int) (w : World) (n0 : -9223372036854775807 ≤ n) (n1 : n ≤ 9223372036854775807) :
    Calls Tryz.prog 142 #[.agg #[.int .i64 n, .int .i64 d]] w fun e w' => e = .returned (.agg #[.int .i64 (-n), .int .i64 d]) ∧ Below w.heap.size w w' := by
  go_enter Tryz.func142, Tryz.ntmps142
  go_wp2
  exact bodyPost_ret (v := .agg #[.int .i64 (-n), .int .i64 d]) (by simp [results, Tryz.results142, go_sem]) rfl ⟨rfl, ((Below.refl _ _).alloc (Nat.le_refl _) _).alloc (by simp) _⟩

/-- The first of two errors. -/
def firstE (e f : Int) : Int := if e = 0 then f else e

set_option maxHeartbeats 1000000 in
theorem first_any (e f : Int) (b : Nat) (cap : Nat) (w : World) (h0 : w.cell? ⟨b, 0, none⟩ = some (.int .i64 e)) (h1 : w.cell? ⟨b, 1, none⟩ = some (.int .i64 f)) :
    Calls Tryz.prog 165 #[.slice (some ⟨b, 0, none⟩) 2 cap] w fun r w' => r = .returned (.int .i64 (firstE e f)) ∧ w = w' := by
  by_cases he : e = 0
  · subst he
    by_cases hf : f = 0
    · subst hf
      go_enter Tryz.func165, Tryz.ntmps165
      go_wp2
      go_step3
      go_wp2
      go_step3
      go_wp2
      refine wp_loop_rounds 3 ?_
      rw [rounds_succ]
      go_wp2
      rw [rounds_succ]
      go_wp2
      rw [rounds_succ]
      go_wp2
      try rw [Exit.noGoto_ret]
      try rw [Exit.noGoto_normal]
      go_wp2
      go_ret
      exact ⟨rfl, rfl⟩
    · have hfb : (f != 0) = true := by simpa using hf
      have hfc : (f == 0) = false := by simpa using hf
      have e1 : firstE 0 f = f := by unfold firstE; rw [if_pos rfl]
      rw [e1]
      clear e1 hf
      go_enter Tryz.func165, Tryz.ntmps165
      go_wp2
      go_step3
      go_wp2
      go_step3
      go_wp2
      refine wp_loop_rounds 2 ?_
      rw [rounds_succ]
      go_wp2
      rw [rounds_succ]
      go_wp2
      try rw [Exit.noGoto_ret]
      try rw [Exit.noGoto_normal]
      go_wp2
      go_ret
      exact ⟨rfl, rfl⟩
  · have heb : (e != 0) = true := by simpa using he
    have hec : (e == 0) = false := by simpa using he
    have e1 : firstE e f = e := by unfold firstE; rw [if_neg he]
    rw [e1]
    clear e1 he
    go_enter Tryz.func165, Tryz.ntmps165
    go_wp2
    go_step3
    go_wp2
    go_step3
    go_wp2
    refine wp_loop_rounds 1 ?_
    rw [rounds_succ]
    go_wp2
    try rw [Exit.noGoto_ret]
    try rw [Exit.noGoto_normal]
    go_wp2
    go_ret
    exact ⟨rfl, rfl⟩

end Go.Proofs.YtgeneoamngfomaaGreatDoor

namespace Go.Proofs.YtgeneoamngfomaaGreatDoor
open Go.RowKit
set_option linter.unusedVariables false

/-- A ratio that may be. -/
structure OkR (n d : Int) : Prop where
  d0 : 0 < d
  d1 : d ≤ 9223372036854775807
  n0 : -9223372036854775807 ≤ n
  n1 : n ≤ 9223372036854775807
  g : Int.gcd n d = 1

/-- The number that a ratio is. -/
def rat (n d : Int) : Rat := Rat.divInt n d

theorem OkR.num {n d : Int} (h : OkR n d) : (rat n d).num = n := by
  unfold rat
  rw [Rat.num_divInt, Int.gcd_comm, h.g, Int.sign_eq_one_of_pos h.d0]; simp
theorem OkR.denN {n d : Int} (h : OkR n d) : (rat n d).den = d.natAbs := by
  unfold rat
  rw [Rat.den_divInt, Int.gcd_comm, h.g, if_neg (by have := h.d0; omega)]; simp
theorem OkR.den {n d : Int} (h : OkR n d) : (((rat n d).den : Nat) : Int) = d := by rw [h.denN]; have := h.d0; omega
theorem OkR.inj {n d n' d' : Int} (h : OkR n d) (h' : OkR n' d') (e : rat n d = rat n' d') : n = n' ∧ d = d' :=
  ⟨by rw [← h.num, ← h'.num, e], by rw [← h.den, ← h'.den, e]⟩

/-- What Check tells. -/
def okB (n d : Int) : Bool := decide (0 < d) && (decide (n ≠ -9223372036854775808) && decide (Int.gcd n d = 1))
def chkE (n d : Int) : Int := if d = 0 then 12 else if okB n d then 0 else 13
theorem chkE_ok {n d : Int} (h : OkR n d) : chkE n d = 0 := by
  unfold chkE okB
  have := h.d0; have := h.n0; have := h.g
  rw [if_neg (by omega)]
  rw [decide_eq_true (show 0 < d by omega), decide_eq_true (show n ≠ -9223372036854775808 by omega), decide_eq_true h.g]; rfl
theorem chkE_zero {n d : Int} (h : chkE n d = 0) (n0 : -9223372036854775808 ≤ n) (n1 : n ≤ 9223372036854775807) (d1 : d ≤ 9223372036854775807) : OkR n d := by
  unfold chkE okB at h
  by_cases h0 : d = 0
  · rw [if_pos h0] at h; cases h
  · rw [if_neg h0] at h
    by_cases h1 : (decide (0 < d) && (decide (n ≠ -9223372036854775808) && decide (Int.gcd n d = 1))) = true
    · simp only [Bool.and_eq_true, decide_eq_true_eq] at h1
      exact ⟨h1.1, d1, by have := h1.2.1; omega, n1, h1.2.2⟩
    · rw [if_neg h1] at h; cases h
theorem chkE_cases (n d : Int) : chkE n d = 0 ∨ chkE n d = 12 ∨ chkE n d = 13 := by
  unfold chkE
  split
  · exact Or.inr (Or.inl rfl)
  · split
    · exact Or.inl rfl
    · exact Or.inr (Or.inr rfl)

/-- What is told of a number: the ratio and no error, or ErrOver. -/
def tup (a b c : Int) : Value := .tuple #[.agg #[.int .i64 a, .int .i64 b], .int .i64 c]
def fitsR (q : Rat) : Bool := decide (-9223372036854775807 ≤ q.num ∧ q.num ≤ 9223372036854775807 ∧ ((q.den : Nat) : Int) ≤ 9223372036854775807)
def rN (q : Rat) : Int := if fitsR q then q.num else 0
def rD (q : Rat) : Int := if fitsR q then ((q.den : Nat) : Int) else 0
def rE (q : Rat) : Int := if fitsR q then 0 else 11
def fitV (q : Rat) : Value := tup (rN q) (rD q) (rE q)
theorem fitsR_ok {n d : Int} (h : OkR n d) : fitsR (rat n d) = true := by
  unfold fitsR; rw [h.num, h.den]; exact decide_eq_true ⟨h.n0, h.n1, h.d1⟩
theorem okR_of {q : Rat} (h : fitsR q = true) : OkR q.num ((q.den : Nat) : Int) := by
  have h' := of_decide_eq_true h
  have := q.den_pos
  exact ⟨by omega, h'.2.2, h'.1, h'.2.1, q.reduced⟩
theorem rat_of (q : Rat) : rat q.num ((q.den : Nat) : Int) = q := Rat.num_divInt_den q
theorem fit_in {q : Rat} (h : fitsR q = true) : rN q = q.num ∧ rD q = ((q.den : Nat) : Int) ∧ rE q = 0 := by unfold rN rD rE; rw [h]; exact ⟨rfl, rfl, rfl⟩
theorem fit_out {q : Rat} (h : fitsR q = false) : rN q = 0 ∧ rD q = 0 ∧ rE q = 11 := by unfold rN rD rE; rw [h]; exact ⟨rfl, rfl, rfl⟩

/-- What lowest tells. -/
def lowV (num den e : Int) : Value := if e = 0 then (if num = -9223372036854775808 then tup 0 0 11 else tup num den 0) else tup 0 0 e

/-- A number that fits without its sign, as the wide number's through tells it. -/
def inS (n : Int) : Bool := decide (-9223372036854775807 ≤ n ∧ n ≤ 9223372036854775807)
def sN (n : Int) : Int := if inS n then n else 0
def sE (n : Int) : Int := if inS n then 0 else 11

theorem low_fit (N D : Int) (q : Rat) (hn : q.num = N) (hd : ((q.den : Nat) : Int) = D) : lowV (fitN N) (fitN D) (firstE (fitE N) (fitE D)) = fitV q := by
  have hp : 0 < D := by have := q.den_pos; omega
  unfold fitV
  by_cases h : fitsR q = true
  · obtain ⟨h1, h2, h3⟩ := fit_in h
    have h' := of_decide_eq_true h
    rw [hn, hd] at h'
    rw [h1, h2, h3, hn, hd, fitN_in ((inR_iff N).2 (by omega)), fitN_in ((inR_iff D).2 (by omega)), fitE_in ((inR_iff N).2 (by omega)), fitE_in ((inR_iff D).2 (by omega))]
    unfold lowV firstE
    rw [if_pos rfl, if_pos rfl, if_neg (by omega)]
  · have h0 : fitsR q = false := by simpa using h
    obtain ⟨h1, h2, h3⟩ := fit_out h0
    have h' := of_decide_eq_false h0
    rw [hn, hd] at h'
    rw [h1, h2, h3]
    unfold lowV firstE
    by_cases g1 : inR N = true
    · rw [fitN_in g1, fitE_in g1, if_pos rfl]
      by_cases g2 : inR D = true
      · rw [fitE_in g2, if_pos rfl]
        have := (inR_iff N).1 g1
        have := (inR_iff D).1 g2
        rw [if_pos (by omega)]
      · rw [fitE_out (by simpa using g2), if_neg (by decide)]
    · rw [fitE_out (by simpa using g1)]; rfl

theorem low_thr (N D : Int) (q : Rat) (hn : q.num = N) (hd : ((q.den : Nat) : Int) = D) : lowV (sN N) (fitN D) (firstE (sE N) (fitE D)) = fitV q := by
  have hp : 0 < D := by have := q.den_pos; omega
  unfold fitV
  by_cases h : fitsR q = true
  · obtain ⟨h1, h2, h3⟩ := fit_in h
    have h' := of_decide_eq_true h
    rw [hn, hd] at h'
    have hs : inS N = true := decide_eq_true ⟨h'.1, h'.2.1⟩
    rw [h1, h2, h3, hn, hd, fitN_in ((inR_iff D).2 (by omega)), fitE_in ((inR_iff D).2 (by omega))]
    unfold lowV firstE sN sE
    rw [hs, if_pos rfl, if_pos rfl, if_pos rfl, if_pos rfl, if_neg (by omega)]
  · have h0 : fitsR q = false := by simpa using h
    obtain ⟨h1, h2, h3⟩ := fit_out h0
    have h' := of_decide_eq_false h0
    rw [hn, hd] at h'
    rw [h1, h2, h3]
    unfold lowV firstE sN sE
    by_cases g1 : inS N = true
    · rw [g1, if_pos rfl, if_pos rfl, if_pos rfl]
      have g1' := of_decide_eq_true g1
      have g2 : inR D = false := by
        by_cases g : inR D = true
        · have := (inR_iff D).1 g; omega
        · simpa using g
      rw [fitE_out g2, if_neg (by decide)]
    · rw [show inS N = false by simpa using g1]; rfl

/-! ### The parts of sums and products -/
theorem mul_parts (a b : Rat) : (a * b).num = a.num.tdiv (Nat.gcd a.num.natAbs b.den) * b.num.tdiv (Nat.gcd b.num.natAbs a.den) ∧
    (a * b).den = (a.den / Nat.gcd b.num.natAbs a.den) * (b.den / Nat.gcd a.num.natAbs b.den) := by
  show (Rat.mul a b).num = _ ∧ (Rat.mul a b).den = _
  delta Rat.mul
  simp only [Int.divExact_eq_tdiv, Nat.divExact_eq_div, and_self]
theorem add_parts (a b : Rat) {g : Nat} (hg : g = a.den.gcd b.den) {z : Int} (hz : z = a.num * ↑(b.den / g) + b.num * ↑(a.den / g)) :
    (a + b).num = z.tdiv (z.natAbs.gcd g) ∧ (a + b).den = ((a.den / g) * b.den) / (z.natAbs.gcd g) := by
  subst hg; subst hz
  show (Rat.add a b).num = _ ∧ (Rat.add a b).den = _
  delta Rat.add; dsimp only; split
  · rename_i h
    rw [h, Nat.gcd_one_right]
    simp
  · simp only [Rat.maybeNormalize]
    split
    · rename_i h
      dsimp only
      rw [h]
      exact ⟨(Int.tdiv_one _).symm, (Nat.div_one _).symm⟩
    · simp only [Int.divExact_eq_tdiv, Nat.divExact_eq_div, and_self]

end Go.Proofs.YtgeneoamngfomaaGreatDoor

namespace Go.Proofs.YtgeneoamngfomaaGreatDoor
open Go.RowKit
set_option linter.unusedVariables false

theorem drewN_belowR (w : World) (n : Nat) : Below w.heap.size w (w.drewN n) := ⟨rfl, rfl, rfl, Nat.le_refl _, fun _ _ => rfl⟩

theorem gcd_le_right {n d : Int} (h : 0 < d) : ((Int.gcd n d : Nat) : Int) ≤ d := by
  have h1 : Int.gcd n d ≤ d.natAbs := Nat.gcd_le_right _ (by omega)
  omega

theorem check_any (n d : Int) (w : World) (n0 : -9223372036854775808 ≤ n) (n1 : n ≤ 9223372036854775807) (d0 : -9223372036854775808 ≤ d) (d1 : d ≤ 9223372036854775807) :
    Calls Tryz.prog 77 #[.agg #[.int .i64 n, .int .i64 d]] w fun e w' => e = .returned (.int .i64 (chkE n d)) ∧ Below w.heap.size w w' := by
  have hal : ∀ o, Below w.heap.size w (w.alloc o) := fun o => Below.alloc (Below.refl _ _) (Nat.le_refl _) _
  have HAl := Lib.hid hal
  clear hal
  rcases Int.lt_trichotomy d 0 with h | h | h
  · have e : chkE n d = 13 := by unfold chkE okB; rw [if_neg (by omega), decide_eq_false (show ¬ 0 < d by omega)]; rfl
    rw [e]
    have hz : (d == 0) = false := by simp; omega
    clear e
    go_enter Tryz.func77, Tryz.ntmps77
    go_wp2
    go_ret
    exact ⟨rfl, HAl.out _⟩
  · subst h
    have e : chkE n 0 = 12 := rfl
    rw [e]
    clear e
    go_enter Tryz.func77, Tryz.ntmps77
    go_wp2
    go_ret
    exact ⟨rfl, HAl.out _⟩
  · have hz : (d == 0) = false := by simp; omega
    have hg := gcd_le_right (n := n) h
    have HC := Lib.hid (fun w => common_any n d w n0 n1 d0 d1 (by omega))
    by_cases hm : n = -9223372036854775808
    · have e : chkE n d = 13 := by unfold chkE okB; rw [if_neg (by omega), decide_eq_false (show ¬ n ≠ -9223372036854775808 by omega), Bool.false_and, Bool.and_false]; rfl
      rw [e]
      clear e
      subst hm
      go_enter Tryz.func77, Tryz.ntmps77
      go_wp2
      go_ret
      exact ⟨rfl, HAl.out _⟩
    · have hmb : (n == -9223372036854775808) = false := by simpa using hm
      by_cases h1 : Int.gcd n d = 1
      · have e : chkE n d = 0 := by unfold chkE okB; rw [if_neg (by omega), decide_eq_true (show 0 < d by omega), decide_eq_true (show n ≠ -9223372036854775808 from hm), decide_eq_true h1]; rfl
        rw [e]
        rw [h1] at HC
        clear e hm h1 hg
        go_enter Tryz.func77, Tryz.ntmps77
        go_wp2_with (go_at_call 110; refine (HC.out _).mono ?_; rintro e w' ⟨rfl, q, rfl⟩)
        go_ret
        exact ⟨rfl, (HAl.out _).trans ((drewN_belowR _ _).mono (by simp))⟩
      · have e : chkE n d = 13 := by unfold chkE okB; rw [if_neg (by omega), decide_eq_false h1, Bool.and_false, Bool.and_false]; rfl
        rw [e]
        have h2 : (((Int.gcd n d : Nat) : Int) != 1) = true := by simp; omega
        have h3 : (((Int.gcd n d : Nat) : Int) == 1) = false := by simp; omega
        clear e hm h1 hg
        generalize ((Int.gcd n d : Nat) : Int) = g at *
        go_enter Tryz.func77, Tryz.ntmps77
        go_wp2_with (go_at_call 110; refine (HC.out _).mono ?_; rintro e w' ⟨rfl, q, rfl⟩)
        go_ret
        exact ⟨rfl, (HAl.out _).trans ((drewN_belowR _ _).mono (by simp))⟩

theorem low_any (num den e f : Int) (b cap : Nat) (w : World) (hb : b < w.heap.size) (h0 : w.cell? ⟨b, 0, none⟩ = some (.int .i64 e)) (h1 : w.cell? ⟨b, 1, none⟩ = some (.int .i64 f)) :
    Calls Tryz.prog 167 #[.int .i64 num, .int .i64 den, .slice (some ⟨b, 0, none⟩) 2 cap] w fun r w' => r = .returned (lowV num den (firstE e f)) ∧ Below w.heap.size w w' := by
  have hal : ∀ o, Below w.heap.size w (w.alloc o) := fun o => Below.alloc (Below.refl _ _) (Nat.le_refl _) _
  have HF := Lib.hid (fun o => first_any e f b cap (w.alloc o) (by rw [World.cell?_alloc_past _ _ _ hb]; exact h0) (by rw [World.cell?_alloc_past _ _ _ hb]; exact h1))
  have HAl := Lib.hid hal
  clear hal h0 h1
  generalize firstE e f = er at *
  by_cases he : er = 0
  · subst he
    by_cases hm : num = -9223372036854775808
    · subst hm
      have e1 : lowV (-9223372036854775808) den 0 = tup 0 0 11 := rfl
      rw [e1]
      clear e1
      go_enter Tryz.func167, Tryz.ntmps167
      go_wp2_with (go_at_call 165; refine (HF.out _).mono ?_; rintro e w' ⟨rfl, rfl⟩)
      exact bodyPost_ret (v := tup 0 0 11) (by simp [results, Tryz.results167, go_sem, tup]) rfl ⟨rfl, HAl.out _⟩
    · have hmb : (num == -9223372036854775808) = false := by simpa using hm
      have e1 : lowV num den 0 = tup num den 0 := by unfold lowV; rw [if_pos rfl, if_neg hm]
      rw [e1]
      clear e1 hm
      go_enter Tryz.func167, Tryz.ntmps167
      go_wp2_with (go_at_call 165; refine (HF.out _).mono ?_; rintro e w' ⟨rfl, rfl⟩)
      exact bodyPost_ret (v := tup num den 0) (by simp [results, Tryz.results167, go_sem, tup]) rfl ⟨rfl, HAl.out _⟩
  · have heb : (er != 0) = true := by simpa using he
    have hec : (er == 0) = false := by simpa using he
    have e1 : lowV num den er = tup 0 0 er := by unfold lowV; rw [if_neg he]
    rw [e1]
    clear e1 he
    go_enter Tryz.func167, Tryz.ntmps167
    go_wp2_with (go_at_call 165; refine (HF.out _).mono ?_; rintro e w' ⟨rfl, rfl⟩)
    exact bodyPost_ret (v := tup 0 0 er) (by simp [results, Tryz.results167, go_sem, tup]) rfl ⟨rfl, HAl.out _⟩

/-- Two ratios and a result, in three new blocks. -/
structure Box2 (w wx : World) (na da nb db : Int) : Prop where
  a0 : wx.cell? ⟨w.heap.size, 0, none⟩ = some (.int .i64 na)
  a1 : wx.cell? ⟨w.heap.size, 1, none⟩ = some (.int .i64 da)
  b0 : wx.cell? ⟨w.heap.size + 1, 0, none⟩ = some (.int .i64 nb)
  b1 : wx.cell? ⟨w.heap.size + 1, 1, none⟩ = some (.int .i64 db)
  r0 : wx.cell? ⟨w.heap.size + 1 + 1, 0, none⟩ = some (.int .i64 0)
  r1 : wx.cell? ⟨w.heap.size + 1 + 1, 1, none⟩ = some (.int .i64 0)
  f0 : wx.frozen? ⟨w.heap.size + 1 + 1, 0, none⟩ = false
  f1 : wx.frozen? ⟨w.heap.size + 1 + 1, 1, none⟩ = false
  bel : Below w.heap.size w wx
  sz : w.heap.size + 3 ≤ wx.heap.size
theorem Box2.keep {w wx w1 : World} {na da nb db : Int} (h : Box2 w wx na da nb db) (hb : Below wx.heap.size wx w1) : Box2 w w1 na da nb db := by
  have hs := h.sz
  have hs1 := hb.size
  have hc : ∀ b i, b < w.heap.size + 3 → w1.cell? ⟨b, i, none⟩ = wx.cell? ⟨b, i, none⟩ := fun b i hb' => hb.cell (p := ⟨b, i, none⟩) (show b < wx.heap.size by omega)
  have hf : ∀ b i, b < w.heap.size + 3 → w1.frozen? ⟨b, i, none⟩ = wx.frozen? ⟨b, i, none⟩ := fun b i hb' => hb.frozen (p := ⟨b, i, none⟩) (show b < wx.heap.size by omega)
  exact ⟨(hc _ _ (by omega)).trans h.a0, (hc _ _ (by omega)).trans h.a1, (hc _ _ (by omega)).trans h.b0, (hc _ _ (by omega)).trans h.b1, (hc _ _ (by omega)).trans h.r0, (hc _ _ (by omega)).trans h.r1, (hf _ _ (by omega)).trans h.f0, (hf _ _ (by omega)).trans h.f1, h.bel.trans (hb.mono (by omega)), by omega⟩
theorem Box2.start (w : World) (na da nb db : Int) (e : TypeId) : Box2 w (((w.alloc (.cells #[.int .i64 na, .int .i64 da] e)).alloc (.cells #[.int .i64 nb, .int .i64 db] e)).alloc (.cells #[.int .i64 0, .int .i64 0] e)) na da nb db := by
  have z1 : (w.alloc (.cells #[.int .i64 na, .int .i64 da] e)).heap.size = w.heap.size + 1 := by simp
  have z2 : ((w.alloc (.cells #[.int .i64 na, .int .i64 da] e)).alloc (.cells #[.int .i64 nb, .int .i64 db] e)).heap.size = w.heap.size + 1 + 1 := by simp
  have at0 : ∀ (x : World) (c : Array Value) (i : Nat) (v : Value), c[i]? = some v → (x.alloc (.cells c e)).cell? ⟨x.heap.size, i, none⟩ = some v := fun x c i v h => by rw [World.cell?_alloc_at _ _ _ _ rfl]; exact h
  refine ⟨?_, ?_, ?_, ?_, ?_, ?_, ?_, ?_, Below.alloc (Below.alloc (Below.alloc (Below.refl _ w) (Nat.le_refl _) _) (by simp) _) (by simp; omega) _, by simp⟩
  · rw [World.cell?_alloc_past _ _ _ (by rw [z2]; show w.heap.size < w.heap.size + 1 + 1; omega), World.cell?_alloc_past _ _ _ (by rw [z1]; show w.heap.size < w.heap.size + 1; omega)]; exact at0 _ _ _ _ rfl
  · rw [World.cell?_alloc_past _ _ _ (by rw [z2]; show w.heap.size < w.heap.size + 1 + 1; omega), World.cell?_alloc_past _ _ _ (by rw [z1]; show w.heap.size < w.heap.size + 1; omega)]; exact at0 _ _ _ _ rfl
  · rw [World.cell?_alloc_past _ _ _ (by rw [z2]; show w.heap.size + 1 < w.heap.size + 1 + 1; omega), ← z1]; exact at0 _ _ _ _ rfl
  · rw [World.cell?_alloc_past _ _ _ (by rw [z2]; show w.heap.size + 1 < w.heap.size + 1 + 1; omega), ← z1]; exact at0 _ _ _ _ rfl
  · rw [← z2]; exact at0 _ _ _ _ rfl
  · rw [← z2]; exact at0 _ _ _ _ rfl
  · exact World.frozen?_alloc_at _ _ _ _ z2.symm
  · exact World.frozen?_alloc_at _ _ _ _ z2.symm
/-- The result, stored. -/
theorem Box2.done {w wx : World} {na da nb db : Int} (h : Box2 w wx na da nb db) (x y : Value) : Below w.heap.size w ((wx.setCell ⟨w.heap.size + 1 + 1, 0, none⟩ x).setCell ⟨w.heap.size + 1 + 1, 1, none⟩ y) :=
  Below.setCell (Below.setCell h.bel (show w.heap.size ≤ w.heap.size + 1 + 1 by omega) _) (show w.heap.size ≤ w.heap.size + 1 + 1 by omega) _

end Go.Proofs.YtgeneoamngfomaaGreatDoor

/-
  Package periods: periods in memory, what the methods of a parting answer.
-/
import Derived.Test.YtjddmgmblohpaaaAgM
import Derived.StillTailTactics
import Derived.Deep.RegionLaw
import Derived.BigRegion
import Derived.WalkSmall
import Derived.IntWalk
import Derived.OwnWalk
namespace Go.Proofs.Ytjddmgmblohpaaa
open Go.RowKit Go.Lib
set_option linter.unusedVariables false
set_option linter.unusedSimpArgs false

/-- The last period, of so many days each. -/
def lastP (s : Nat) : Int := ((73048 / s : Nat) : Int)
def ofE (d : Int) : Int := if d < 0 ∨ 73048 < d then 18 else 0
def ofV (s : Nat) (d : Int) : Int := if d < 0 ∨ 73048 < d then 0 else d / (s : Int)
def spE (s : Nat) (p : Int) : Int := if p < 0 ∨ lastP s < p then 10 else 0
def spF (s : Nat) (p : Int) : Int := if p < 0 ∨ lastP s < p then 0 else p * (s : Int)
def spT (s : Nat) (p : Int) : Int := if p < 0 ∨ lastP s < p then 0 else min (p * (s : Int) + s - 1) 73048
theorem lastP_nat (s : Nat) : 0 ≤ lastP s := by unfold lastP; exact Int.natCast_nonneg _
theorem lastP_le (s : Nat) : lastP s ≤ 73048 := by
  unfold lastP
  have := Nat.div_le_self 73048 s
  omega
theorem lastP_div (s : Nat) : lastP s = 73048 / (s : Int) := by unfold lastP; simp

/-- Periods in memory: how many days each has, and how many are locked. -/
structure PdV (w : World) (b : Nat) (s l : Nat) : Prop where
  c0 : w.cell? ⟨b, 0, none⟩ = some (.int .i64 (s : Nat))
  c1 : w.cell? ⟨b, 1, none⟩ = some (.int .i64 (l : Nat))
  f1 : w.frozen? ⟨b, 1, none⟩ = false
theorem PdV.lt {w : World} {b s l : Nat} (h : PdV w b s l) : b < w.heap.size := ltF h.c0
theorem PdV.keep {w w' : World} {b s l : Nat} (h : PdV w b s l) (hb : Below w.heap.size w w') : PdV w' b s l :=
  ⟨keepF hb h.c0, keepF hb h.c1, (hb.frozen (p := ⟨b, 1, none⟩) h.lt).trans h.f1⟩

set_option maxRecDepth 100000 in
set_option maxHeartbeats 1000000 in
theorem plast_any (w : World) (s : Nat) (h1 : 1 ≤ s) (h4 : s ≤ 400) : Calls Try.prog 20 #[.agg #[.int .i64 (s : Nat)]] w fun e w' => e = .returned (.int .i64 (lastP s)) ∧ Below w.heap.size w w' := by
  have hb := newF w (.cells #[.int .i64 (s : Nat)] 48)
  have hc : (w.alloc (.cells #[.int .i64 (s : Nat)] 48)).cell? ⟨w.heap.size, 0, none⟩ = some (.int .i64 (s : Nat)) := by rw [World.cell?_alloc_at _ _ _ _ rfl]; rfl
  have h0 : ¬ ((s : Nat) : Int) = 0 := by omega
  have hm : ¬ ((s : Nat) : Int) = -1 := by omega
  have hd : (73048 : Int).tdiv (s : Int) = lastP s := by rw [Int.tdiv_eq_ediv_of_nonneg (by decide), lastP_div]
  have hl := lastP_nat s
  have hl2 := lastP_le s
  have HB := Lib.hid hb
  clear hb
  generalize lastP s = L at *
  go_enter Try.func20, Try.ntmps20
  go_wp2_with fail
  go_ret
  exact ⟨rfl, HB.out⟩
set_option maxRecDepth 100000 in
set_option maxHeartbeats 1000000 in
theorem pof_any (w : World) (s : Nat) (h1 : 1 ≤ s) (h4 : s ≤ 400) (d : Int) : Calls Try.prog 22 #[.agg #[.int .i64 (s : Nat)], .int .i64 d] w fun e w' => e = .returned (.tuple #[.int .i64 (ofV s d), .int .i64 (ofE d)]) ∧ Below w.heap.size w w' := by
  have hb := newF w (.cells #[.int .i64 (s : Nat)] 48)
  have hc : (w.alloc (.cells #[.int .i64 (s : Nat)] 48)).cell? ⟨w.heap.size, 0, none⟩ = some (.int .i64 (s : Nat)) := by rw [World.cell?_alloc_at _ _ _ _ rfl]; rfl
  have h0 : ¬ ((s : Nat) : Int) = 0 := by omega
  have hm : ¬ ((s : Nat) : Int) = -1 := by omega
  have HB := Lib.hid hb
  clear hb
  unfold ofV ofE
  by_cases c1 : d < 0
  · rw [if_pos (Or.inl c1), if_pos (Or.inl c1)]
    go_enter Try.func22, Try.ntmps22
    go_wp2_with fail
    go_ret2
    exact ⟨rfl, HB.out⟩
  by_cases c2 : 73048 < d
  · rw [if_pos (Or.inr c2), if_pos (Or.inr c2)]
    go_enter Try.func22, Try.ntmps22
    go_wp2_with fail
    go_ret2
    exact ⟨rfl, HB.out⟩
  rw [if_neg (by omega), if_neg (by omega)]
  have hd : d.tdiv (s : Int) = d / (s : Int) := Int.tdiv_eq_ediv_of_nonneg (by omega)
  have hq : 0 ≤ d / (s : Int) := Int.ediv_nonneg (by omega) (by omega)
  have hq2 : d / (s : Int) ≤ d := Int.ediv_le_self _ (by omega)
  generalize d / (s : Int) = q at *
  go_enter Try.func22, Try.ntmps22
  go_wp2_with fail
  go_ret2
  exact ⟨rfl, HB.out⟩

theorem sp_bd {s : Nat} {p : Int} (h1 : 1 ≤ s) (h0 : 0 ≤ p) (h : p ≤ lastP s) : 0 ≤ p * (s : Int) ∧ p * (s : Int) ≤ 73048 := by
  rw [lastP_div] at h
  have h2 := Int.mul_nonneg h0 (show (0 : Int) ≤ (s : Int) by omega)
  have h3 := (Int.le_ediv_iff_mul_le (show (0 : Int) < (s : Int) by omega)).1 h
  exact ⟨h2, h3⟩
set_option maxRecDepth 100000 in
set_option maxHeartbeats 2000000 in
theorem pspan_any (w : World) (s : Nat) (h1 : 1 ≤ s) (h4 : s ≤ 400) (p : Int) : Calls Try.prog 21 #[.agg #[.int .i64 (s : Nat)], .int .i64 p] w fun e w' => e = .returned (.tuple #[.int .i64 (spF s p), .int .i64 (spT s p), .int .i64 (spE s p)]) ∧ Below w.heap.size w w' := by
  have hb := newF w (.cells #[.int .i64 (s : Nat)] 48)
  have hc : (w.alloc (.cells #[.int .i64 (s : Nat)] 48)).cell? ⟨w.heap.size, 0, none⟩ = some (.int .i64 (s : Nat)) := by rw [World.cell?_alloc_at _ _ _ _ rfl]; rfl
  have HL := Lib.hid (fun w' => plast_any w' s h1 h4)
  have HS := Lib.hid (And.intro h1 h4)
  have HB := Lib.hid hb
  have hl := lastP_nat s
  have hl2 := lastP_le s
  have hsp := fun h0 h => sp_bd (s := s) (p := p) h1 h0 h
  clear hb
  unfold spF spT spE
  by_cases c1 : p < 0
  · rw [if_pos (Or.inl c1), if_pos (Or.inl c1), if_pos (Or.inl c1)]
    clear hsp
    generalize lastP s = L at *
    go_enter Try.func21, Try.ntmps21
    go_wp2_with fail
    go_ret3
    exact ⟨rfl, HB.out⟩
  by_cases c2 : lastP s < p
  · rw [if_pos (Or.inr c2), if_pos (Or.inr c2), if_pos (Or.inr c2)]
    clear hsp
    generalize lastP s = L at *
    go_enter Try.func21, Try.ntmps21
    go_wp2_with fail
    refine (HL.out _).mono ?_
    rintro e w1 ⟨rfl, hb1⟩
    have HB1 := Lib.hid (onF HB.out hb1)
    clear hb1 hc
    go_wp2_with fail
    go_ret3
    exact ⟨rfl, HB1.out⟩
  rw [if_neg (by omega), if_neg (by omega), if_neg (by omega)]
  obtain ⟨a0, a1⟩ := hsp (by omega) (by omega)
  clear hsp
  generalize lastP s = L at *
  go_enter Try.func21, Try.ntmps21
  go_wp2_with fail
  refine (HL.out _).mono ?_
  rintro e w1 ⟨rfl, hb1⟩
  have hc1 := keepF hb1 hc
  have HB1 := Lib.hid (onF HB.out hb1)
  generalize hm : p * (s : Int) = m at *
  clear hb1 hc
  go_wp2_with fail
  by_cases c3 : m + s - 1 ≤ 73048
  · have hm2 : min (m + (s : Int) - 1) 73048 = m + (s : Int) - 1 := by omega
    have HM := Lib.hid hm2
    clear hm2
    go_quiet (fail)
    go_wp2_with fail
    go_ret3
    subst hm
    exact ⟨by rw [HM.out]; rfl, below_drewN HB1.out _⟩
  · have hm2 : min (m + (s : Int) - 1) 73048 = 73048 := by omega
    have HM := Lib.hid hm2
    clear hm2
    go_quiet (fail)
    go_wp2_with fail
    go_ret3
    subst hm
    exact ⟨by rw [HM.out]; rfl, below_drewN HB1.out _⟩

/-- What the calls of the methods answer: the first one that is open; where something is booked; what a lock answers. -/
def eaE (s l : Nat) : Int := if lastP s < (l : Int) then 21 else 0
def eaV (s l : Nat) : Int := if lastP s < (l : Int) then 0 else (l : Int)
def lkB (l : Nat) (p : Int) : Bool := decide (0 ≤ p ∧ p < (l : Int))
def lkE (s l : Nat) (p c : Int) : Int := if p < 0 ∨ lastP s < p then 10 else if p < (l : Int) then 19 else if (l : Int) < p then 24 else if c ≤ spT s p then 18 else 0
def bkE (s l : Nat) (d : Int) : Int := if ofE d = 0 then eaE s l else ofE d
def bkV (s l : Nat) (d : Int) : Int := if ofE d = 0 then (if eaE s l = 0 then (if ofV s d < (l : Int) then (l : Int) else ofV s d) else 0) else 0

set_option maxRecDepth 100000 in
set_option maxHeartbeats 1000000 in
theorem last_any (w : World) {b s l : Nat} (h : PdV w b s l) (h1 : 1 ≤ s) (h4 : s ≤ 400) : Calls Try.prog 17 #[.pointer (some ⟨b, 0, none⟩)] w fun e w' => e = .returned (.int .i64 (lastP s)) ∧ Below w.heap.size w w' := by
  have HL := Lib.hid (fun w' => plast_any w' s h1 h4)
  have c0 := h.c0
  go_enter Try.func17, Try.ntmps17
  go_wp2_with fail
  refine (HL.out _).mono ?_
  rintro e w1 ⟨rfl, hb1⟩
  go_wp2_with fail
  go_ret
  exact ⟨rfl, hb1⟩
set_option maxRecDepth 100000 in
set_option maxHeartbeats 1000000 in
theorem of_any (w : World) {b s l : Nat} (h : PdV w b s l) (h1 : 1 ≤ s) (h4 : s ≤ 400) (d : Int) : Calls Try.prog 16 #[.pointer (some ⟨b, 0, none⟩), .int .i64 d] w fun e w' => e = .returned (.tuple #[.int .i64 (ofV s d), .int .i64 (ofE d)]) ∧ Below w.heap.size w w' := by
  have HL := Lib.hid (fun w' => pof_any w' s h1 h4 d)
  have c0 := h.c0
  generalize ofV s d = v at *
  generalize ofE d = u at *
  go_enter Try.func16, Try.ntmps16
  go_wp2_with fail
  refine (HL.out _).mono ?_
  rintro e w1 ⟨rfl, hb1⟩
  go_wp2_with fail
  go_ret2
  exact ⟨rfl, hb1⟩
set_option maxRecDepth 100000 in
set_option maxHeartbeats 1000000 in
theorem span_any (w : World) {b s l : Nat} (h : PdV w b s l) (h1 : 1 ≤ s) (h4 : s ≤ 400) (p : Int) : Calls Try.prog 13 #[.pointer (some ⟨b, 0, none⟩), .int .i64 p] w fun e w' => e = .returned (.tuple #[.int .i64 (spF s p), .int .i64 (spT s p), .int .i64 (spE s p)]) ∧ Below w.heap.size w w' := by
  have HL := Lib.hid (fun w' => pspan_any w' s h1 h4 p)
  have c0 := h.c0
  generalize spF s p = v at *
  generalize spT s p = u at *
  generalize spE s p = x at *
  go_enter Try.func13, Try.ntmps13
  go_wp2_with fail
  refine (HL.out _).mono ?_
  rintro e w1 ⟨rfl, hb1⟩
  go_wp2_with fail
  go_ret3
  exact ⟨rfl, hb1⟩
set_option maxRecDepth 100000 in
set_option maxHeartbeats 1000000 in
theorem locked_any (w : World) {b s l : Nat} (h : PdV w b s l) (p : Int) : Calls Try.prog 14 #[.pointer (some ⟨b, 0, none⟩), .int .i64 p] w fun e w' => e = .returned (.bool (lkB l p)) ∧ w' = w := by
  have c1 := h.c1
  unfold lkB
  by_cases p0 : 0 ≤ p
  · by_cases p1 : p < (l : Int)
    · have hd : decide (0 ≤ p ∧ p < (l : Int)) = true := decide_eq_true ⟨p0, p1⟩
      rw [hd]
      go_enter Try.func14, Try.ntmps14
      go_wp2_with fail
      go_ret
      exact ⟨rfl, rfl⟩
    · have hd : decide (0 ≤ p ∧ p < (l : Int)) = false := decide_eq_false (fun x => p1 x.2)
      rw [hd]
      go_enter Try.func14, Try.ntmps14
      go_wp2_with fail
      go_ret
      exact ⟨rfl, rfl⟩
  · have hd : decide (0 ≤ p ∧ p < (l : Int)) = false := decide_eq_false (fun x => p0 x.1)
    rw [hd]
    go_enter Try.func14, Try.ntmps14
    go_wp2_with fail
    go_ret
    exact ⟨rfl, rfl⟩
set_option maxRecDepth 100000 in
set_option maxHeartbeats 1000000 in
theorem new_no (w : World) (s : Int) (h : s < 1 ∨ 400 < s) : Calls Try.prog 9 #[.int .i64 s] w fun e w' => e = .returned (.tuple #[.pointer none, .int .i64 10]) ∧ w' = w := by
  by_cases c : s < 1
  · go_enter Try.func9, Try.ntmps9
    go_wp2_with fail
    go_ret2
    exact ⟨rfl, rfl⟩
  · have c2 : 400 < s := by omega
    go_enter Try.func9, Try.ntmps9
    go_wp2_with fail
    go_ret2
    exact ⟨rfl, rfl⟩
theorem PdV.new {w : World} {s l : Nat} : PdV (w.alloc (.cells #[.int .i64 (s : Nat), .int .i64 (l : Nat)] 50)) w.heap.size s l :=
  ⟨(World.cell?_alloc_at _ _ _ _ rfl).trans rfl, (World.cell?_alloc_at _ _ _ _ rfl).trans rfl, World.frozen?_alloc_at _ _ _ _ rfl⟩
set_option maxRecDepth 100000 in
set_option maxHeartbeats 1000000 in
theorem new_yes (w : World) (s : Nat) (h1 : 1 ≤ s) (h4 : s ≤ 400) : Calls Try.prog 9 #[.int .i64 (s : Nat)] w fun e w' => e = .returned (.tuple #[.pointer (some ⟨w.heap.size, 0, none⟩), .int .i64 0]) ∧ PdV w' w.heap.size s 0 ∧ Below w.heap.size w w' := by
  go_enter Try.func9, Try.ntmps9
  go_wp2_with fail
  go_ret2
  exact ⟨rfl, PdV.new (l := 0), newF _ _⟩

end Go.Proofs.Ytjddmgmblohpaaa

/-
  chattelref01's Near: its contract.
-/
import Derived.Test.YtedjbmmegjgegaaRefM
namespace Go.Proofs.Ytedjbmmegjgegaa
open Go.RowKit
set_option linter.unusedVariables false

theorem plus_twice {w3 : World} {base : Nat} {v : Value} {out : List Int} {R : Nat} (ho : Own w3 base v out) (hv : val out = val (bitsN R) + val (bitsN R)) (hbt : IsBits out) (hcn : Canon (bitsN R) → Canon (bitsN R) → Canon out) : ∃ a n c, v = .slice a n c ∧ SL w3 (.slice a n c) (bitsN (2 * R)) ∧ n = (bitsN (2 * R)).length := by
  rw [val_bitsN] at hv
  have e := canon_of_val hbt (hcn (canon_bitsN _) (canon_bitsN _)) (n := 2 * R) (by omega)
  obtain ⟨a, c, h1, h2, h3, h4⟩ := ho.sl
  rw [e] at h1 h2 h4
  exact ⟨a, _, c, h1, ⟨a, c, rfl, h2, h3, h4⟩, rfl⟩

theorem first_bit (N : Nat) : (bitsN N).getD 0 0 = ((N % 2 : Nat) : Int) := by
  by_cases h : N = 0
  · rw [h, bitsN_zero]; rfl
  · rw [bitsN_pos h]; rfl

theorem near_at {wx : World} {qa : Option Addr} {qn qc N : Nat} (h : SL wx (.slice qa qn qc) (bitsN N)) (hl : qn ≤ 1000) :
    Calls Try.prog 73 #[.slice qa qn qc, .int .i64 0] wx fun e w' => e = .returned (.int .i64 ((N % 2 : Nat) : Int)) ∧ w' = wx := by
  obtain ⟨h1, h2⟩ := h.len
  have := at_any (bitsN N) qa qc 0 wx h2 (by omega) (by omega)
  rw [first_bit, ← h1] at this
  exact this

theorem NearW.big {w wx : World} {Q : Nat} {sa sb : Bool} {b : Option Addr} {m d : Nat} {qa : Option Addr} {qn qc : Nat} {ra : Option Addr} {rn rc N R : Nat} (h : NearW w wx Q sa sb b m d false qa qn qc ra rn rc N R) : BigV wx (.agg #[.bool false, .slice qa qn qc]) (N : Int) :=
  ⟨_, by rw [decide_eq_false (show ¬ ((N : Int) < 0) by omega)], by rw [Int.natAbs_natCast]; exact h.bq⟩
theorem below_undrew {w w' : World} (h : Below w.drew.heap.size w.drew w') : Below w.heap.size w w' := ⟨h.os, h.tape, h.output, h.size, h.block⟩

theorem up_bool (oz : Int) (N : Nat) : (decide (0 < oz) || (decide (oz = 0) && decide (N % 2 = 1))) = (decide (0 < oz) || ((oz == 0) && (((N % 2 : Nat) : Int) == 1))) := by
  have e1 : decide (oz = 0) = (oz == 0) := by rw [Bool.eq_iff_iff]; simp
  have e2 : decide (N % 2 = 1) = (((N % 2 : Nat) : Int) == 1) := by rw [Bool.eq_iff_iff, decide_eq_true_iff, beq_iff_eq]; omega
  rw [e1, e2]
theorem near_lim {k N : Nat} (h : (bitsN N).length ≤ k) : (N : Int).natAbs < 2 ^ k := by rw [Int.natAbs_natCast]; exact bitsN_lt h

/-- Near's cells behind the test. -/
def NearAny (w wx : World) (Q : Nat) (sa sb : Bool) (b : Option Addr) (m d : Nat) (ra : Option Addr) (rn rc N R : Nat) : Prop := ∃ qa qn qc, NearW w wx Q sa sb b m d false qa qn qc ra rn rc N R

/-- The number's sign is put; the number is handed over. -/
theorem near_end {w wx : World} {Q : Nat} {sa sb : Bool} {b : Option Addr} {m d : Nat} {sq : Bool} {qa : Option Addr} {qn qc : Nat} {ra : Option Addr} {rn rc N R : Nat} (h : NearW w wx Q sa sb b m d sq qa qn qc ra rn rc N R) (s : Bool) (hs : s = ((sa != sb) && decide (0 < N))) :
    BigV (((wx.setCell ⟨Q, 0, none⟩ (.bool s)).setCell ⟨w.heap.size + 1 + 1, 0, none⟩ (.bool s)).setCell ⟨w.heap.size + 1 + 1, 1, none⟩ (.slice qa qn qc)) (.agg #[.bool s, .slice qa qn qc]) (sgn ((sa != sb) && decide (0 < N)) N) ∧ Below w.heap.size w (((wx.setCell ⟨Q, 0, none⟩ (.bool s)).setCell ⟨w.heap.size + 1 + 1, 0, none⟩ (.bool s)).setCell ⟨w.heap.size + 1 + 1, 1, none⟩ (.slice qa qn qc)) := by
  have h1 := h.sign s
  have hn : (sgn ((sa != sb) && decide (0 < N)) (N : Int)).natAbs = N := by unfold sgn; split <;> omega
  have hz : s = decide (sgn ((sa != sb) && decide (0 < N)) (N : Int) < 0) := by
    rw [hs]; unfold sgn
    by_cases g : ((sa != sb) && decide (0 < N)) = true
    · rw [g]; simp at g ⊢; try omega
    · have g' : ((sa != sb) && decide (0 < N)) = false := by simpa using g
      rw [g']; simp
  have hsl : SL (wx.setCell ⟨Q, 0, none⟩ (.bool s)) (.slice qa qn qc) (bitsN (sgn ((sa != sb) && decide (0 < N)) (N : Int)).natAbs) := by rw [hn]; exact h1.bq
  refine ⟨big_stored hz hsl h1.r0 h1.r1, Below.setCell (Below.setCell h1.bel (show w.heap.size ≤ w.heap.size + 1 + 1 by omega) _) (show w.heap.size ≤ w.heap.size + 1 + 1 by omega) _⟩

end Go.Proofs.Ytedjbmmegjgegaa

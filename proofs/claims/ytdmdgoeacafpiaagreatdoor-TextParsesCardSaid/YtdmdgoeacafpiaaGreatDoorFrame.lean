/-
  What a law's frame tells of slices of numbers that came in, and what the walks take of it.
-/
import Derived.Test.YtdmdgoeacafpiaaGreatDoorRows
import Derived.Test.YtdmdgoeacafpiaaGreatDoorLy
import Derived.WalkKit
import Derived.ProofKit
import Derived.OpenShut
import Derived.ShutString
import Derived.ChangeOld
import Derived.Below
import Derived.Lib.SmallJoins
namespace Go.Proofs.YtdmdgoeacafpiaaGreatDoor
open Go.ChangeShapes Go.WideShapes Go.ChangeAt Go.RowKit
set_option linter.unusedVariables false

theorem own : ownKnob Tryz.prog.godebug = none := by kernel_rfl
theorem laidOut : laidOutB Tryz.prog = true := by kernel_rfl

/-- A slice of numbers that came in: nil, or a row of cells, each number fitting its kind. -/
def IsRow (k : IntKind) (w : World) (a : Option Addr) (len cap : Nat) (zs : List Int) : Prop :=
  (a = none ∧ len = 0 ∧ cap = 0 ∧ zs = []) ∨
  ∃ x, a = some x ∧ len ≤ cap ∧ cap ≤ maxLen ∧ zs.length = cap ∧ (∀ i, i < zs.length → w.cell? (x.add i) = some (.int k (zs.getD i 0))) ∧ ∀ n ∈ zs, (Lit.int k n).wf = true

theorem block_lt {w : World} {b o : Nat} {v : Value} (h : w.cell? ⟨b, o, none⟩ = some v) : b < w.heap.size := by
  obtain ⟨c, e, fr, h1, _⟩ := Sort.cells_of_cell? h
  rcases Nat.lt_or_ge b w.heap.size with g | g
  · exact g
  · rw [Array.getElem?_eq_none g] at h1; cases h1

theorem wf_bd {n : Int} (h : (Lit.int .i64 n).wf = true) : -9223372036854775808 ≤ n ∧ n ≤ 9223372036854775807 := bounds_i64 h

/-- What the walks take: no number; or a row of them. -/
theorem IsRow.parts {w : World} {a : Option Addr} {len cap : Nat} {zs : List Int} (h : IsRow .i64 w a len cap zs) :
    len ≤ 9223372036854775807 ∧ (len = 0 ∨ ∃ b o, a = some ⟨b, o, none⟩ ∧ b < w.heap.size ∧ ∃ l : List Int, l.length = len ∧ Row w b o l ∧ InI l) := by
  rcases h with ⟨rfl, rfl, rfl, rfl⟩ | ⟨x, rfl, h1, h2, h3, h4, h5⟩
  · exact ⟨by omega, Or.inl rfl⟩
  · unfold maxLen at h2
    refine ⟨by omega, ?_⟩
    by_cases c : len = 0
    · exact Or.inl c
    · right
      obtain ⟨b, o, rfl, hc⟩ := ints_at h4 (by omega)
      have hl : (zs.take len).length = len := by rw [List.length_take]; omega
      have hg : ∀ t, t < len → (zs.take len).getD t 0 = zs.getD t 0 := fun t ht => by
        rw [List.getD_eq_getElem?_getD, List.getD_eq_getElem?_getD, List.getElem?_take, if_pos ht]
      refine ⟨b, o, rfl, block_lt (hc 0 (by omega)), zs.take len, hl, ?_, ?_⟩
      · intro t ht
        rw [hl] at ht
        rw [hg t ht]; exact hc t (by omega)
      · intro t
        by_cases ht : t < len
        · rw [hg t ht]
          refine wf_bd (h5 _ ?_)
          rw [List.getD_eq_getElem?_getD, List.getElem?_eq_getElem (by omega)]
          exact List.getElem_mem _
        · rw [List.getD_eq_getElem?_getD, List.getElem?_eq_none (by omega)]; exact ⟨by decide, by decide⟩

theorem fitted (n : Int) : -9223372036854775808 ≤ fitN n ∧ fitN n ≤ 9223372036854775807 := by
  unfold fitN
  by_cases h : inR n = true
  · rw [if_pos h]; exact (inR_iff n).1 h
  · rw [if_neg h]; exact ⟨by decide, by decide⟩
theorem fitE_zero {n : Int} (h : fitE n = 0) : inR n = true := by
  unfold fitE at h
  by_cases g : inR n = true
  · exact g
  · rw [if_neg g] at h; cases h

theorem cells_int : Tryz.prog.cellsOf 3 = 1 := by kernel_rfl


end Go.Proofs.YtdmdgoeacafpiaaGreatDoor

/-
  Package facts: places as keys; facts as they lie in memory.
-/
import Derived.Test.YtgenkigeglleiaaCells
import Derived.Test.YtgenkigeglleiaaSmall
import Derived.Test.YtgenkigeglleiaaRatB
import Derived.Maps.OwnSet
import Derived.Maps.OwnOps
import Derived.Maps.RangeWalk
import Derived.DeepKeys4
import Derived.Lib.Hide
namespace Go.Proofs.Ytgenkigeglleiaa
open Go.RowKit Go.Lib Go.Maps
set_option linter.unusedVariables false
set_option linter.unusedSimpArgs false

theorem ltF {w : World} {b i : Nat} {v : Value} (h : w.cell? ⟨b, i, none⟩ = some v) : b < w.heap.size := by
  rcases Nat.lt_or_ge b w.heap.size with hb | hb
  · exact hb
  · rw [World.cell?, Array.getElem?_eq_none (by simpa using hb)] at h; cases h
theorem newF (w : World) (o : Obj) : Below w.heap.size w (w.alloc o) := Below.alloc (Below.refl _ _) (Nat.le_refl _) _
theorem onF {w w1 w2 : World} (h : Below w.heap.size w w1) (h' : Below w1.heap.size w1 w2) : Below w.heap.size w w2 := h.trans (h'.mono h.size)
theorem fc_laidOut : laidOutB Try.prog = true := by kernel_rfl
theorem plc_row : (85 : TypeId) < Try.prog.types.size := of_decide_eq_true (by kernel_rfl)
theorem plc_wide : (match Try.prog.underlying 85 with | some (.array _ _) | some (.struct _) => true | _ => false) = true := by kernel_rfl
set_option maxRecDepth 100000 in
theorem plc_law : Keyed Try.prog 85 := Keyed.of_law (deep_law_laid fc_laidOut (m := 2) (by omega) plc_row (by kernel_rfl) plc_wide)
/-- A number of 64 bits. -/
def I64 (a : Int) : Prop := -9223372036854775808 ≤ a ∧ a ≤ 9223372036854775807
theorem wf64 {a : Int} (h : I64 a) : (Lit.int .i64 a).wf = true := by
  unfold Lit.wf
  rw [Bool.and_eq_true, decide_eq_true_iff, decide_eq_true_iff]
  exact h
theorem ex_succ {n k : Nat} (h : k < n) : ∃ q, n = q + 1 := ⟨n - 1, by omega⟩
def plv (a b : Int) : Value := .agg #[.int .i64 a, .int .i64 b]
def plk (a b : Int) : Lit := .string (keyBytes [.int .i64 a, .int .i64 b])
theorem plc_lits {a b : Int} (ha : (Lit.int .i64 a).wf = true) (hb : (Lit.int .i64 b).wf = true) : Try.prog.keyLits (Try.prog.types.size + 1) 85 [.int .i64 a, .int .i64 b] = some [.int .i64 a, .int .i64 b] := by
  obtain ⟨q, hq⟩ : ∃ q, Try.prog.types.size = q + 1 := ex_succ plc_row
  rw [hq]
  have hc : Try.prog.cellsOf 3 = 1 := by kernel_rfl
  have hc2 : Try.prog.cellsOf 85 = 2 := by kernel_rfl
  have hi : ∀ a : Int, (Lit.int .i64 a).wf = true → Try.prog.keyLits (q + 1) 3 [.int .i64 a] = some [.int .i64 a] := fun a h => by
    simp [Program.keyLits, Try.underlying3, h]
  unfold Program.keyLits
  simp [Try.underlying85, hc, hc2, hi _ ha, hi _ hb]
theorem plc_key {a b : Int} (ha : I64 a) (hb : I64 b) : keyOf Try.prog 85 (plv a b) = some (plk a b) := by
  have hl := plc_lits (wf64 ha) (wf64 hb)
  have hk : Try.prog.keyType 85 = true := by kernel_rfl
  have hc2 : Try.prog.cellsOf 85 = 2 := by kernel_rfl
  have hf : (plv a b).formed Try.prog 85 = true := by
    unfold plv
    simp [Value.formed, Try.underlying85, hc2]
  unfold keyOf
  rw [Try.underlying85]
  dsimp only
  rw [hk, hf]
  show (if (true && true) = true then (Try.prog.keyLits (Try.prog.types.size + 1) 85 [.int .i64 a, .int .i64 b]).map _ else none) = _
  rw [hl]
  rfl
theorem plk_inj {a b c d : Int} (ha : I64 a) (hb : I64 b) (hc : I64 c) (hd : I64 d) (h : plk a b = plk c d) : a = c ∧ b = d := by
  have h1 := plc_key ha hb
  have h2 := plc_key hc hd
  rw [← h] at h2
  have := plc_law.inj h1 h2
  unfold plv at this
  simp at this
  exact this

end Go.Proofs.Ytgenkigeglleiaa

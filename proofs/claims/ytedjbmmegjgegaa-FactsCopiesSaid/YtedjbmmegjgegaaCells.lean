/-
  Cells that are stored into, rows that were made.
-/
import Derived.Test.YtedjbmmegjgegaaSmall
import Derived.Sort.Row
import Derived.Sort.LotA
import Derived.CellFam
import Derived.BigGuard
import Derived.BigCall
import Derived.RegionTactic
import Derived.BigRegion
import Derived.Deep.Draws
import Derived.Deep.QuietTactic
import Derived.BigQuiet
import Derived.Deep.OwnRows
import Derived.Below
import Derived.WalkMore
import Derived.Deep.LoopGhost
namespace Go.Proofs.Ytedjbmmegjgegaa
open Go.RowKit Go.Sort
set_option linter.unusedVariables false

theorem cell_other {w : World} {a b : Addr} {v : Value} (h : a ≠ b) : (w.setCell a v).cell? b = w.cell? b := by
  apply World.cell?_setCell_other; exact h
theorem cell_same {w : World} {a : Addr} {u v : Value} (h : w.cell? a = some u) : (w.setCell a v).cell? a = some v := by
  apply World.cell?_setCell_same; exact h

theorem Try.infoI : (Try.prog.info? 3).map (fun i => (i.zero, i.size, i.bytes)) = some (some (.int .i64 0), 1, 8) := by kernel_rfl
theorem addr_ne_block {b b' o o' : Nat} (h : b ≠ b') : (⟨b, o, none⟩ : Addr) ≠ ⟨b', o', none⟩ := fun e => h (congrArg Addr.block e)
theorem addr_ne_off {b b' o o' : Nat} (h : o ≠ o') : (⟨b, o, none⟩ : Addr) ≠ ⟨b', o', none⟩ := fun e => h (congrArg Addr.off e)
theorem made_at (w : World) (n : Nat) (z : Value) (e : TypeId) (t : Nat) (ht : t < n) : (w.alloc (.cells (madeCells #[z] n) e)).cell? ⟨w.heap.size, 0 + t, none⟩ = some z := by
  rw [World.cell?_alloc_at _ _ _ _ rfl]
  simp [madeCells, ht, Nat.mod_one]

end Go.Proofs.Ytedjbmmegjgegaa

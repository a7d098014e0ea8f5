/-
  Package ratio: Compare.
-/
import Derived.Test.YtedjbmmegjgegaaRatL
namespace Go.Proofs.Ytedjbmmegjgegaa
open Go.RowKit
set_option linter.unusedVariables false

/-- A block of three cells that hold nothing yet. -/
structure QC (wx : World) (Q : Nat) : Prop where
  c0 : wx.cell? ⟨Q, 0, none⟩ = some (.int .u64 0)
  c1 : wx.cell? ⟨Q, 1, none⟩ = some (.int .u64 0)
  c2 : wx.cell? ⟨Q, 2, none⟩ = some (.int .i64 0)
  f0 : wx.frozen? ⟨Q, 0, none⟩ = false
  f1 : wx.frozen? ⟨Q, 1, none⟩ = false
  f2 : wx.frozen? ⟨Q, 2, none⟩ = false
  lt : Q < wx.heap.size
theorem QC.keep {wx w1 : World} {Q : Nat} (h : QC wx Q) (hb : Below wx.heap.size wx w1) : QC w1 Q := by
  have hc : ∀ i, w1.cell? ⟨Q, i, none⟩ = wx.cell? ⟨Q, i, none⟩ := fun i => hb.cell (p := ⟨Q, i, none⟩) h.lt
  have hf : ∀ i, w1.frozen? ⟨Q, i, none⟩ = wx.frozen? ⟨Q, i, none⟩ := fun i => hb.frozen (p := ⟨Q, i, none⟩) h.lt
  exact ⟨(hc _).trans h.c0, (hc _).trans h.c1, (hc _).trans h.c2, (hf _).trans h.f0, (hf _).trans h.f1, (hf _).trans h.f2, Nat.lt_of_lt_of_le h.lt hb.size⟩
theorem QC.new (w : World) (e : TypeId) : QC (w.alloc (.cells #[.int .u64 0, .int .u64 0, .int .i64 0] e)) w.heap.size :=
  ⟨by rw [World.cell?_alloc_at _ _ _ _ rfl]; rfl, by rw [World.cell?_alloc_at _ _ _ _ rfl]; rfl, by rw [World.cell?_alloc_at _ _ _ _ rfl]; rfl, World.frozen?_alloc_at _ _ _ _ rfl, World.frozen?_alloc_at _ _ _ _ rfl, World.frozen?_alloc_at _ _ _ _ rfl, by simp⟩
theorem QC.of_drew {w w1 : World} {e : TypeId} (h : Below (w.alloc (.cells #[.int .u64 0, .int .u64 0, .int .i64 0] e)).drew.heap.size (w.alloc (.cells #[.int .u64 0, .int .u64 0, .int .i64 0] e)).drew w1) : QC w1 w.heap.size := (QC.new w e).keep (drew_belowR h)
theorem QC.of_alloc {w w1 : World} {e : TypeId} (h : Below (w.alloc (.cells #[.int .u64 0, .int .u64 0, .int .i64 0] e)).heap.size (w.alloc (.cells #[.int .u64 0, .int .u64 0, .int .i64 0] e)) w1) : QC w1 w.heap.size := (QC.new w e).keep h
theorem alloc_belowR {w w1 : World} {o : Obj} (h : Below (w.alloc o).heap.size (w.alloc o) w1) : Below w.heap.size w w1 := (Below.alloc (Below.refl _ _) (Nat.le_refl _) _).trans (h.mono (by simp))
theorem allocd_belowR {w w1 : World} {o : Obj} (h : Below (w.alloc o).drew.heap.size (w.alloc o).drew w1) : Below w.heap.size w w1 := alloc_belowR (drew_belowR h)

theorem CmpCut.of_set {w w2 : World} {Q : Nat} {z g : Int} (hb : Below w.heap.size w w2) (h : QC w2 Q) (hQ : w.heap.size ≤ Q) : CmpCut w (((w2.setCell ⟨Q, 0, none⟩ (.int .u64 (wH z))).setCell ⟨Q, 1, none⟩ (.int .u64 (wL z))).setCell ⟨Q, 2, none⟩ (.int .i64 g)) (.pointer (some ⟨Q, 0, none⟩)) z g := by
  refine ⟨Q, rfl, ?_, ?_, Below.setCell (Below.setCell (Below.setCell hb hQ _) hQ _) hQ _⟩
  · rw [cellOther (Or.inr (by decide)), cellOther (Or.inr (by decide))]; exact cellSame h.c0
  · rw [cellOther (Or.inr (by decide))]
    refine cellSame (u := .int .u64 0) ?_
    rw [cellOther (Or.inr (by decide))]; exact h.c1

end Go.Proofs.Ytedjbmmegjgegaa

/-
  Ratios that a law keeps in blocks of its own; and the chapter's examples.
-/
import Derived.Test.YtdmdgoeacafpiaaGreatDoorRtL
namespace Go.Proofs.YtdmdgoeacafpiaaGreatDoor
open Go.RowKit
set_option linter.unusedVariables false

/-- Blocks that hold ratios. -/
structure Keeps (w wx : World) (L : List (Nat × Int × Int)) : Prop where
  bel : Below w.heap.size w wx
  all : ∀ t ∈ L, t.1 < wx.heap.size ∧ wx.cell? ⟨t.1, 0, none⟩ = some (.int .i64 t.2.1) ∧ wx.cell? ⟨t.1, 1, none⟩ = some (.int .i64 t.2.2)
theorem Keeps.nil (w : World) : Keeps w w [] := ⟨Below.refl _ _, fun _ h => by cases h⟩
theorem Keeps.keep {w wx w1 : World} {L : List (Nat × Int × Int)} (h : Keeps w wx L) (hb : Below wx.heap.size wx w1) : Keeps w w1 L :=
  ⟨h.bel.trans (hb.mono h.bel.size), fun t ht => by
    obtain ⟨h1, h2, h3⟩ := h.all t ht
    exact ⟨Nat.lt_of_lt_of_le h1 hb.size, (hb.cell (p := ⟨t.1, 0, none⟩) h1).trans h2, (hb.cell (p := ⟨t.1, 1, none⟩) h1).trans h3⟩⟩
theorem Keeps.push {w wx : World} {L : List (Nat × Int × Int)} (h : Keeps w wx L) (n d : Int) (e : TypeId) : Keeps w (wx.alloc (.cells #[.int .i64 n, .int .i64 d] e)) ((wx.heap.size, n, d) :: L) := by
  have hb : Below wx.heap.size wx (wx.alloc (.cells #[.int .i64 n, .int .i64 d] e)) := Below.alloc (Below.refl _ _) (Nat.le_refl _) _
  have h' := h.keep hb
  refine ⟨h'.bel, fun t ht => ?_⟩
  rcases List.mem_cons.1 ht with rfl | ht
  · exact ⟨by simp, by rw [World.cell?_alloc_at _ _ _ _ rfl]; rfl, by rw [World.cell?_alloc_at _ _ _ _ rfl]; rfl⟩
  · exact h'.all t ht
theorem Keeps.get {w wx : World} {L : List (Nat × Int × Int)} (h : Keeps w wx L) (i : Nat) {Q : Nat} {n d : Int} (hi : L[i]? = some (Q, n, d)) : Q < wx.heap.size ∧ wx.cell? ⟨Q, 0, none⟩ = some (.int .i64 n) ∧ wx.cell? ⟨Q, 1, none⟩ = some (.int .i64 d) :=
  h.all _ (List.mem_of_getElem? hi)

theorem rN_six : rN (rat 6 (-4)) = -3 ∧ rD (rat 6 (-4)) = 2 ∧ rE (rat 6 (-4)) = 0 := by decide
theorem op_half : opN (bothE 1 2 1 3) (rat 1 2 + rat 1 3) = 5 ∧ opD (bothE 1 2 1 3) (rat 1 2 + rat 1 3) = 6 ∧ opE (bothE 1 2 1 3) (rat 1 2 + rat 1 3) = 0 := by decide +kernel
theorem md_five : (if chkE 5 2 = 0 then md 5 1 2 else 0) = 2 ∧ chkE 5 2 = 0 := by decide

end Go.Proofs.YtdmdgoeacafpiaaGreatDoor

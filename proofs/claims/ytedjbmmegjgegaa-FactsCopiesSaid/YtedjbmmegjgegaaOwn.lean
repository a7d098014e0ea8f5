/-
  Slices of numbers that a call makes by append: what is owned, and how it reads.
-/
import Derived.Test.YtedjbmmegjgegaaCells
import Derived.Test.YtedjbmmegjgegaaSum
import Derived.OwnWalk
import Derived.Laws.AppendOwn
namespace Go.Proofs.Ytedjbmmegjgegaa
open Go.RowKit
set_option linter.unusedVariables false

/-- A slice of the call's own, in a block from base on, holds a list. -/
def Own (w : World) (base : Nat) (v : Value) (l : List Int) : Prop := w.ownsRow base 3 1 v l.length (l.map (Value.int .i64))

theorem Own.nil (w : World) (base : Nat) : Own w base (.slice none 0 0) [] := World.ownsRow_nil _ _ _ _

theorem Own.reads {w : World} {base : Nat} {v : Value} {l : List Int} (h : Own w base v l) :
    (v = .slice none 0 0 ∧ l = []) ∨ ∃ g cap, v = .slice (some ⟨g, 0, none⟩) l.length cap ∧ base ≤ g ∧ g < w.heap.size ∧ Row w g 0 l := by
  obtain ⟨h1, h2⟩ := h
  rcases h2 with ⟨rfl, hn⟩ | ⟨g, cap, cur, rfl, hb, hc, h3, h4, h5, h6⟩
  · exact Or.inl ⟨rfl, List.length_eq_zero_iff.1 hn⟩
  · refine Or.inr ⟨g, cap, rfl, hb, ?_, ?_⟩
    · rcases Nat.lt_or_ge g w.heap.size with k | k
      · exact k
      · rw [Array.getElem?_eq_none k] at hc; cases hc
    · intro t ht
      have e : cur[t]? = some (.int .i64 (l.getD t 0)) := by
        have : (cur.toList.take (l.length * 1))[t]? = (l.map (Value.int .i64))[t]? := by rw [h6]
        rw [List.getElem?_take, if_pos (by omega), List.getElem?_map, List.getElem?_eq_getElem ht] at this
        rw [List.getD_eq_getElem?_getD, List.getElem?_eq_getElem ht]
        simpa using this
      rw [Nat.zero_add]
      unfold World.cell?
      rw [hc]; exact e

theorem Own.grown {w w' : World} {base : Nat} {v : Value} {l : List Int} (h : Own w base v l) (hg : Below (w.heap.size) w w') : Own w' base v l := by
  obtain ⟨h1, h2⟩ := h
  refine ⟨h1, ?_⟩
  rcases h2 with h2 | ⟨g, cap, cur, rfl, hb, hc, h3⟩
  · exact Or.inl h2
  · refine Or.inr ⟨g, cap, cur, rfl, hb, ?_, h3⟩
    rw [hg.block g (by
      rcases Nat.lt_or_ge g w.heap.size with k | k
      · exact k
      · rw [Array.getElem?_eq_none k] at hc; cases hc)]
    exact hc

/-- One more number, behind the law on append. -/
theorem own_snoc {w' : World} {base : Nat} {v' : Value} {l : List Int} {x : Int} (h : w'.ownsRow base 3 1 v' (l.length + 1) (l.map (Value.int .i64) ++ [.int .i64 x])) : Own w' base v' (l ++ [x]) := by
  unfold Own
  rw [List.length_append, List.map_append]; exact h

theorem one_cell (w : World) (x : Int) (e : TypeId) : ∀ j u, [Value.int .i64 x][j]? = some u → (w.alloc (.cells #[.int .i64 x] e)).cell? ((⟨w.heap.size, 0, none⟩ : Addr).add j) = some u := by
  intro j u hj
  match j, hj with
  | 0, hj => simp at hj; subst hj; simp [Addr.add]
theorem one_one (x : Int) : ∀ u ∈ [Value.int .i64 x], u.oneCell' = true := by intro u hu; simp at hu; subst hu; rfl

/-- Below, behind an append to a slice of the call's own. -/
theorem below_append {B base : Nat} {w0 w w' : World} {v : Value} {l : List Int} (hb : Below B w0 w) (ho : Own w base v l) (hB : B ≤ base) (hw : B ≤ w.heap.size) {o : Obj} (hg : (w.alloc o).grownBy w' v.ownBlock) : Below B w0 w' := by
  refine (hb.alloc hw o).grown hg (by simp; omega) (fun k hk => ?_)
  have := World.ownsRow.lt ho k hk
  omega

end Go.Proofs.Ytedjbmmegjgegaa

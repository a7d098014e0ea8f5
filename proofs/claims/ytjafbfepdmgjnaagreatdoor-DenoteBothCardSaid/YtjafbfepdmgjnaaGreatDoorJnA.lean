/-
  Slices of nodes that a call makes by append.
-/
import Derived.Test.YtjafbfepdmgjnaaGreatDoorTrm
import Derived.Laws.AppendOwnNone
import Derived.Maps.AppendAt
namespace Go.Proofs.YtjafbfepdmgjnaaGreatDoor
open Go.RowKit Go.Lib
set_option linter.unusedVariables false

/-- A node's cells, in a row. -/
def ndL (n : Nd) : List Value := [.int .i64 n.op, .int .i64 n.a, .int .i64 n.b, .int .i64 n.num, .int .i64 n.den]
def ndR (t : List Nd) : List Value := t.flatMap ndL
theorem ndR_get : ∀ (t : List Nd) (j i : Nat), j < t.length → i < 5 → (ndR t)[j * 5 + i]? = (ndL (t.getD j default))[i]?
  | [], j, i, hj, _ => absurd hj (Nat.not_lt_zero _)
  | n :: t, 0, i, _, hi => by
    unfold ndR
    rw [List.flatMap_cons, Nat.zero_mul, Nat.zero_add, List.getElem?_append_left (by show i < 5; exact hi)]
    rfl
  | n :: t, j + 1, i, hj, hi => by
    have ih := ndR_get t j i (by simpa using hj) hi
    unfold ndR at ih ⊢
    rw [List.flatMap_cons, List.getElem?_append_right (by show 5 ≤ _; omega), show (j + 1) * 5 + i - (ndL n).length = j * 5 + i by show (j + 1) * 5 + i - 5 = _; omega, ih]
    simp [List.getD_eq_getElem?_getD]
/-- A slice of the call's own, in a block from base on, holds nodes. -/
def OwnN (w : World) (base : Nat) (v : Value) (t : List Nd) : Prop := w.ownsRow base 57 5 v t.length (ndR t)
theorem OwnN.nil (w : World) (base : Nat) : OwnN w base (.slice none 0 0) [] := World.ownsRow_nil _ _ _ _
theorem OwnN.one (w : World) (base : Nat) (n : Nd) (hb : base ≤ w.heap.size) : OwnN (w.alloc (.cells #[.int .i64 n.op, .int .i64 n.a, .int .i64 n.b, .int .i64 n.num, .int .i64 n.den] 57)) base (.slice (some ⟨w.heap.size, 0, none⟩) 1 1) [n] :=
  World.ownsRow_lit w #[.int .i64 n.op, .int .i64 n.a, .int .i64 n.b, .int .i64 n.num, .int .i64 n.den] 1 hb (by unfold maxLen; omega) rfl
theorem OwnN.grown {w w' : World} {base : Nat} {v : Value} {t : List Nd} (h : OwnN w base v t) (hg : Below w.heap.size w w') : OwnN w' base v t := by
  obtain ⟨h1, h2⟩ := h
  refine ⟨h1, ?_⟩
  rcases h2 with h2 | ⟨g, cap, cur, rfl, hb, hc, h3⟩
  · exact Or.inl h2
  · refine Or.inr ⟨g, cap, cur, rfl, hb, ?_, h3⟩
    rw [hg.block g (Array.getElem?_eq_some_iff.1 hc).1]
    exact hc
theorem OwnN.base {w : World} {a b : Nat} {v : Value} {t : List Nd} (h : OwnN w b v t) (hab : a ≤ b) : OwnN w a v t := by
  obtain ⟨h1, h2⟩ := h
  refine ⟨h1, ?_⟩
  rcases h2 with h2 | ⟨g, cap, cur, rfl, hb, h3⟩
  · exact .inl h2
  · exact .inr ⟨g, cap, cur, rfl, Nat.le_trans hab hb, h3⟩
theorem OwnN.slice {w : World} {base : Nat} {v : Value} {t : List Nd} (h : OwnN w base v t) : ∃ a cap, v = .slice a t.length cap := by
  rcases h.2 with ⟨rfl, h2⟩ | ⟨g, cap, cur, rfl, _⟩
  · exact ⟨none, 0, by rw [h2]⟩
  · exact ⟨_, _, rfl⟩
theorem OwnN.sl {w : World} {base : Nat} {v : Value} {t : List Nd} (h : OwnN w base v t) : SlT w v t := by
  obtain ⟨h1, h2⟩ := id h
  rcases h2 with ⟨rfl, h2⟩ | ⟨g, cap, cur, rfl, hb, hc, hn, hm, h3, h4⟩
  · exact .inl ⟨List.length_eq_zero_iff.1 h2, _, _, rfl⟩
  · by_cases h0 : t.length = 0
    · exact .inl ⟨List.length_eq_zero_iff.1 h0, some ⟨g, 0, none⟩, cap, by rw [h0]⟩
    · refine .inr ⟨by omega, g, 0, cap, rfl, hn, by unfold maxLen at hm; omega, fun j hj => ?_⟩
      have hcl := h.cells (g := g) rfl
      have k : ∀ i u, i < 5 → (ndL (t.getD j default))[i]? = some u → w.cell? ⟨g, 0 + j * 5 + i, none⟩ = some u := by
        intro i u hi hu
        have := hcl (j * 5 + i) u (by rw [ndR_get t j i hj hi]; exact hu)
        rw [Go.WideShapes.add_plain, ← Nat.add_assoc] at this
        exact this
      exact ⟨k 0 _ (by omega) rfl, k 1 _ (by omega) rfl, k 2 _ (by omega) rfl, k 3 _ (by omega) rfl, k 4 _ (by omega) rfl⟩
theorem OwnN.kept {w w' : World} {base : Nat} {v : Value} {t : List Nd} (h : OwnN w base v t) {row : Option Nat} (hg : w.grownBy w' row) (hne : v.ownBlock = none ∨ v.ownBlock ≠ row) : OwnN w' base v t := World.ownsRow.kept h hg hne
theorem Own.kept {w w' : World} {base : Nat} {v : Value} {l : List Int} (h : YtjafbfepdmgjnaaGreatDoor.Own w base v l) {row : Option Nat} (hg : w.grownBy w' row) (hne : v.ownBlock = none ∨ v.ownBlock ≠ row) : YtjafbfepdmgjnaaGreatDoor.Own w' base v l := World.ownsRow.kept h hg hne

/-- Nothing is appended. -/
theorem run_append_no {P : Program} {w : World} (base : Nat) (t ty e : TypeId) (i : TypeInfo) (size : Nat) (ht : P.underlying t = some (.slice e)) (hi : P.info? e = some i)
    (v : Value) (n : Nat) (xs : List Value) (hown : w.ownsRow base e size v n xs) (c : Nat) :
    (Builtin.append_ #[t, t] ty #[v, .slice none 0 c]).run P w = .ok v w := by
  rcases hown.2 with ⟨rfl, rfl⟩ | ⟨g, cap, cur, rfl, _, _, hnc, _⟩
  · simp [Builtin.append_, run_underlying ht, sizeOf, typeInfo, hi, Builtin.lenOf, Builtin.firstCells]
  · simp [Builtin.append_, run_underlying ht, sizeOf, typeInfo, hi, Builtin.lenOf, Builtin.firstCells, hnc, storeCells]

/-- A slice of rows of nodes. -/
def SlS (w : World) (a : Option Addr) (cap : Nat) (L : List (List Nd)) : Prop :=
  0 < L.length → ∃ b o, a = some ⟨b, o, none⟩ ∧ L.length ≤ cap ∧ cap ≤ 9223372036854775807 ∧ ∀ j, j < L.length → ∃ v, w.cell? ⟨b, o + j, none⟩ = some v ∧ SlT w v (L.getD j [])
theorem SlT.slice {w : World} {v : Value} {t : List Nd} (h : SlT w v t) : ∃ a cap, v = .slice a t.length cap := by
  rcases h with ⟨rfl, a, cap, rfl⟩ | ⟨_, b, o, cap, rfl, _⟩
  · exact ⟨_, _, rfl⟩
  · exact ⟨_, _, rfl⟩
theorem SlS.keep {w w' : World} {a : Option Addr} {cap : Nat} {L : List (List Nd)} (h : SlS w a cap L) (hb : Below w.heap.size w w') : SlS w' a cap L := by
  intro h0
  obtain ⟨b, o, h1, h2, h3, h4⟩ := h h0
  refine ⟨b, o, h1, h2, h3, fun j hj => ?_⟩
  obtain ⟨v, h5, h6⟩ := h4 j hj
  exact ⟨v, keepT hb h5, h6.keep hb⟩

end Go.Proofs.YtjafbfepdmgjnaaGreatDoor

/-
  chattellaw11: calls of an agenda, one after another, as a function of the list; rows of them in memory.
-/
import Derived.Test.YtkfcaafjnolhgaaAhA
namespace Go.Proofs.Ytkfcaafjnolhgaa
open Go.RowKit Go.Lib Go.Maps Go.Sort Go.Shelf
set_option linter.unusedVariables false
set_option linter.unusedSimpArgs false

/-- A call: what is asked, a day, a number. -/
structure Cl where
  k : Int
  d : Int
  t : Int
instance : Inhabited Cl := ⟨⟨0, 0, 0⟩⟩
def clL (c : Cl) : List Value := [.int .i64 c.k, .int .i64 c.d, .int .i64 c.t]
theorem clL_len (c : Cl) : (clL c).length = 3 := rfl
/-- A slice of calls that came in. -/
def SlCl (w : World) (v : Value) (l : List Cl) : Prop := RowX clL 3 w v l ∧ ∀ j, j < l.length → I64 (l.getD j default).k ∧ I64 (l.getD j default).d ∧ I64 (l.getD j default).t
theorem SlCl.keep {w w' : World} {v : Value} {l : List Cl} (h : SlCl w v l) (hb : Below w.heap.size w w') : SlCl w' v l := ⟨h.1.keep hb, h.2⟩
theorem SlCl.slice {w : World} {v : Value} {l : List Cl} (h : SlCl w v l) : ∃ a cap, v = .slice a l.length cap := h.1.slice
/-- A call's cells. -/
theorem SlCl.at {w : World} {a : Option Addr} {n cap : Nat} {l : List Cl} (h : SlCl w (.slice a n cap) l) {i : Nat} (hi : i < l.length) : ∃ b o, a = some ⟨b, o, none⟩ ∧ n = l.length ∧ l.length ≤ cap ∧ cap ≤ 9223372036854775807 ∧ w.cell? ⟨b, o + i * 3, none⟩ = some (.int .i64 (l.getD i default).k) ∧ w.cell? ⟨b, o + i * 3 + 1, none⟩ = some (.int .i64 (l.getD i default).d) ∧ w.cell? ⟨b, o + i * 3 + 2, none⟩ = some (.int .i64 (l.getD i default).t) := by
  rcases h.1 with ⟨rfl, _⟩ | ⟨_, b, o, c, e, h1, h2, h3⟩
  · exact absurd hi (Nat.not_lt_zero _)
  · injection e with e1 e2 e3
    subst e1 e2 e3
    exact ⟨b, o, rfl, rfl, h1, h2, h3 i hi 0 _ (by decide) rfl, h3 i hi 1 _ (by decide) rfl, h3 i hi 2 _ (by decide) rfl⟩
/-- The calls, one after another. -/
def runZ (l : List Cl) : List It × Nat := l.foldl (fun s c => ((doZ c.k c.d c.t s.1 s.2).L, (doZ c.k c.d c.t s.1 s.2).n)) ([], 0)
theorem runZ_snoc (l : List Cl) (c : Cl) : runZ (l ++ [c]) = ((doZ c.k c.d c.t (runZ l).1 (runZ l).2).L, (doZ c.k c.d c.t (runZ l).1 (runZ l).2).n) := by
  unfold runZ
  rw [List.foldl_append]
  rfl
theorem runZ_from : ∀ (l : List Cl) (s : List It × Nat), (l.foldl (fun s c => ((doZ c.k c.d c.t s.1 s.2).L, (doZ c.k c.d c.t s.1 s.2).n)) s).1.length ≤ s.1.length + l.length ∧ (l.foldl (fun s c => ((doZ c.k c.d c.t s.1 s.2).L, (doZ c.k c.d c.t s.1 s.2).n)) s).2 ≤ s.2 + l.length
  | [], s => ⟨Nat.le_refl _, Nat.le_refl _⟩
  | c :: l, s => by
    have ih := runZ_from l ((doZ c.k c.d c.t s.1 s.2).L, (doZ c.k c.d c.t s.1 s.2).n)
    have h1 := doZ_l c.k c.d c.t s.1 s.2
    have h2 := doZ_n c.k c.d c.t s.1 s.2
    dsimp only at ih
    rw [List.foldl_cons, List.length_cons]
    exact ⟨by omega, by omega⟩
theorem runZ_le (l : List Cl) : (runZ l).1.length ≤ l.length ∧ (runZ l).2 ≤ l.length := by
  have h := runZ_from l ([], 0)
  unfold runZ
  simp only [List.length_nil, Nat.zero_add] at h
  exact h
theorem take_cl {l : List Cl} {i : Nat} (hi : i < l.length) : l.take (i + 1) = l.take i ++ [l.getD i default] := by
  rw [List.take_add_one, List.getElem?_eq_getElem hi, List.getD_eq_getElem?_getD, List.getElem?_eq_getElem hi]
  rfl
/-- One call more. -/
theorem runZ_next {l : List Cl} {i : Nat} (hi : i < l.length) : runZ (l.take (i + 1)) = ((doZ (l.getD i default).k (l.getD i default).d (l.getD i default).t (runZ (l.take i)).1 (runZ (l.take i)).2).L, (doZ (l.getD i default).k (l.getD i default).d (l.getD i default).t (runZ (l.take i)).1 (runZ (l.take i)).2).n) := by
  rw [take_cl hi, runZ_snoc]

end Go.Proofs.Ytkfcaafjnolhgaa

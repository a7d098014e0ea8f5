/-
  chattelref07: lists of facts as they lie in memory.
-/
import Derived.Test.YtfkaliammmpcfaaDoorFa
import Derived.Laws.AppendOwnNone
import Derived.Maps.AppendAt
import Derived.WideShapes
namespace Go.Proofs.YtfkaliammmpcfaaDoor
open Go.RowKit Go.Lib
set_option linter.unusedVariables false

/-- A fact of the document's answer: a key, a day, a value, a pick. -/
structure Fct where
  k : Int
  d : Int
  x : Int
  y : Int
  p : Int
instance : Inhabited Fct := ⟨⟨0, 0, 0, 0, 0⟩⟩
structure FctC (w : World) (b p : Nat) (n : Fct) : Prop where
  c0 : w.cell? ⟨b, p, none⟩ = some (.int .i64 n.k)
  c1 : w.cell? ⟨b, p + 1, none⟩ = some (.int .i64 n.d)
  c2 : w.cell? ⟨b, p + 2, none⟩ = some (.int .i64 n.x)
  c3 : w.cell? ⟨b, p + 3, none⟩ = some (.int .i64 n.y)
  c4 : w.cell? ⟨b, p + 4, none⟩ = some (.int .i64 n.p)
theorem FctC.keep {w w' : World} {b p : Nat} {n : Fct} (h : FctC w b p n) (hb : Below w.heap.size w w') : FctC w' b p n :=
  ⟨keepF hb h.c0, keepF hb h.c1, keepF hb h.c2, keepF hb h.c3, keepF hb h.c4⟩
def FctA (w : World) (b o : Nat) (t : List Fct) : Prop := ∀ j, j < t.length → FctC w b (o + j * 5) (t.getD j default)
theorem FctA.keep {w w' : World} {b o : Nat} {t : List Fct} (h : FctA w b o t) (hb : Below w.heap.size w w') : FctA w' b o t := fun j hj => (h j hj).keep hb
/-- A slice of facts. -/
def SlFct (w : World) (v : Value) (t : List Fct) : Prop := (t = [] ∧ ∃ a cap, v = .slice a 0 cap) ∨ (0 < t.length ∧ ∃ b off cap, v = .slice (some ⟨b, off, none⟩) t.length cap ∧ t.length ≤ cap ∧ cap ≤ 9223372036854775807 ∧ FctA w b off t)
theorem SlFct.keep {w w' : World} {v : Value} {t : List Fct} (h : SlFct w v t) (hb : Below w.heap.size w w') : SlFct w' v t := by
  rcases h with h | ⟨h0, b, o, cap, h1, h2, h3, h4⟩
  · exact .inl h
  · exact .inr ⟨h0, b, o, cap, h1, h2, h3, h4.keep hb⟩
theorem SlFct.slice {w : World} {v : Value} {t : List Fct} (h : SlFct w v t) : ∃ a cap, v = .slice a t.length cap := by
  rcases h with ⟨rfl, a, cap, rfl⟩ | ⟨_, b, o, cap, rfl, _⟩
  · exact ⟨_, _, rfl⟩
  · exact ⟨_, _, rfl⟩

/-- A fact's cells, in a row. -/
def fcL (n : Fct) : List Value := [.int .i64 n.k, .int .i64 n.d, .int .i64 n.x, .int .i64 n.y, .int .i64 n.p]
def fcR (t : List Fct) : List Value := t.flatMap fcL
theorem fcR_len : ∀ t : List Fct, (fcR t).length = t.length * 5
  | [] => rfl
  | n :: t => by
    have := fcR_len t
    unfold fcR at this ⊢
    rw [List.flatMap_cons, List.length_append, this, List.length_cons]
    show 5 + _ = _
    omega
theorem fcR_app (t u : List Fct) : fcR (t ++ u) = fcR t ++ fcR u := by unfold fcR; rw [List.flatMap_append]
theorem fcR_get : ∀ (t : List Fct) (j i : Nat), j < t.length → i < 5 → (fcR t)[j * 5 + i]? = (fcL (t.getD j default))[i]?
  | [], j, i, hj, _ => absurd hj (Nat.not_lt_zero _)
  | n :: t, 0, i, _, hi => by
    unfold fcR
    rw [List.flatMap_cons, Nat.zero_mul, Nat.zero_add, List.getElem?_append_left (by show i < 5; exact hi)]
    rfl
  | n :: t, j + 1, i, hj, hi => by
    have ih := fcR_get t j i (by simpa using hj) hi
    unfold fcR at ih ⊢
    rw [List.flatMap_cons, List.getElem?_append_right (by show 5 ≤ _; omega), show (j + 1) * 5 + i - (fcL n).length = j * 5 + i by show (j + 1) * 5 + i - 5 = _; omega, ih]
    simp [List.getD_eq_getElem?_getD]
theorem fcR_one {t : List Fct} : ∀ u ∈ fcR t, u.oneCell' = true := by
  intro u hu
  obtain ⟨n, _, h⟩ := List.mem_flatMap.1 hu
  unfold fcL at h
  simp at h
  rcases h with rfl | rfl | rfl | rfl | rfl <;> rfl
theorem fct_news {w : World} {b o : Nat} {t : List Fct} (hN : FctA w b o t) : ∀ j u, (fcR t)[j]? = some u → w.cell? ((⟨b, o, none⟩ : Addr).add j) = some u := by
  intro j u hu
  have hlt : j < t.length * 5 := by rw [← fcR_len]; exact (List.getElem?_eq_some_iff.1 hu).1
  obtain ⟨q, r, hr, rfl⟩ : ∃ q r, r < 5 ∧ j = q * 5 + r := ⟨j / 5, j % 5, by omega, by omega⟩
  have hq : q < t.length := by omega
  obtain ⟨c0, c1, c2, c3, c4⟩ := hN q hq
  rw [fcR_get t q r hq hr] at hu
  rw [Go.WideShapes.add_plain]
  match r, hr with
  | 0, _ => rw [Nat.add_zero, c0]; exact hu
  | 1, _ => rw [← Nat.add_assoc, c1]; exact hu
  | 2, _ => rw [← Nat.add_assoc, c2]; exact hu
  | 3, _ => rw [← Nat.add_assoc, c3]; exact hu
  | 4, _ => rw [← Nat.add_assoc, c4]; exact hu

/-- Nothing is appended. -/
theorem run_append_noF {P : Program} {w : World} (base : Nat) (t ty e : TypeId) (i : TypeInfo) (size : Nat) (ht : P.underlying t = some (.slice e)) (hi : P.info? e = some i)
    (v : Value) (n : Nat) (xs : List Value) (hown : w.ownsRow base e size v n xs) (c : Nat) :
    (Builtin.append_ #[t, t] ty #[v, .slice none 0 c]).run P w = .ok v w := by
  rcases hown.2 with ⟨rfl, rfl⟩ | ⟨g, cap, cur, rfl, _, _, hnc, _⟩
  · simp [Builtin.append_, run_underlying ht, sizeOf, typeInfo, hi, Builtin.lenOf, Builtin.firstCells]
  · simp [Builtin.append_, run_underlying ht, sizeOf, typeInfo, hi, Builtin.lenOf, Builtin.firstCells, hnc, storeCells]

end Go.Proofs.YtfkaliammmpcfaaDoor

/-
  chattelref07: lists of facts as they lie in memory.
-/
import Derived.Test.YtjafbfepdmgjnaaGreatDoorFa
import Derived.Laws.AppendOwnNone
import Derived.Maps.AppendAt
import Derived.WideShapes
namespace Go.Proofs.YtjafbfepdmgjnaaGreatDoor
open Go.RowKit Go.Lib
set_option linter.unusedVariables false

/-- A fact of the document's answer: a key, a day, a value, a pick. -/
structure Fct where
  k : Int
  d : Int
  x : Int
  y : Int
  p : Int
instance : Inhabited Fct := ⟨⟨0, 0, 0, 0, 0⟩⟩
structure FctC (w : World) (b p : Nat) (n : Fct) : Prop where
  c0 : w.cell? ⟨b, p, none⟩ = some (.int .i64 n.k)
  c1 : w.cell? ⟨b, p + 1, none⟩ = some (.int .i64 n.d)
  c2 : w.cell? ⟨b, p + 2, none⟩ = some (.int .i64 n.x)
  c3 : w.cell? ⟨b, p + 3, none⟩ = some (.int .i64 n.y)
  c4 : w.cell? ⟨b, p + 4, none⟩ = some (.int .i64 n.p)
theorem FctC.keep {w w' : World} {b p : Nat} {n : Fct} (h : FctC w b p n) (hb : Below w.heap.size w w') : FctC w' b p n :=
  ⟨keepF hb h.c0, keepF hb h.c1, keepF hb h.c2, keepF hb h.c3, keepF hb h.c4⟩
def FctA (w : World) (b o : Nat) (t : List Fct) : Prop := ∀ j, j < t.length → FctC w b (o + j * 5) (t.getD j default)
theorem FctA.keep {w w' : World} {b o : Nat} {t : List Fct} (h : FctA w b o t) (hb : Below w.heap.size w w') : FctA w' b o t := fun j hj => (h j hj).keep hb
/-- A slice of facts. -/
def SlFct (w : World) (v : Value) (t : List Fct) : Prop := (t = [] ∧ ∃ a cap, v = .slice a 0 cap) ∨ (0 < t.length ∧ ∃ b off cap, v = .slice (some ⟨b, off, none⟩) t.length cap ∧ t.length ≤ cap ∧ cap ≤ 9223372036854775807 ∧ FctA w b off t)
theorem SlFct.keep {w w' : World} {v : Value} {t : List Fct} (h : SlFct w v t) (hb : Below w.heap.size w w') : SlFct w' v t := by
  rcases h with h | ⟨h0, b, o, cap, h1, h2, h3, h4⟩
  · exact .inl h
  · exact .inr ⟨h0, b, o, cap, h1, h2, h3, h4.keep hb⟩
theorem SlFct.slice {w : World} {v : Value} {t : List Fct} (h : SlFct w v t) : ∃ a cap, v = .slice a t.length cap := by
  rcases h with ⟨rfl, a, cap, rfl⟩ | ⟨_, b, o, cap, rfl, _⟩
  · exact ⟨_, _, rfl⟩
  · exact ⟨_, _, rfl⟩

/-- A fact's cells, in a row. -/
def fcL (n : Fct) : List Value := [.int .i64 n.k, .int .i64 n.d, .int .i64 n.x, .int .i64 n.y, .int .i64 n.p]
def fcR (t : List Fct) : List Value := t.flatMap fcL
theorem fcR_len : ∀ t : List Fct, (fcR t).length = t.length * 5
  | [] => rfl
  | n :: t => by
    have := fcR_len t
    unfold fcR at this ⊢
    rw [List.flatMap_cons, List.length_append, this, List.length_cons]
    show 5 + _ = _
    omega
theorem fcR_app (t u : List Fct) : fcR (t ++ u) = fcR t ++ fcR u := by unfold fcR; rw [List.flatMap_append]
theorem fcR_get : ∀ (t : List Fct) (j i : Nat), j < t.length → i < 5 → (fcR t)[j * 5 + i]? = (fcL (t.getD j default))[i]?
  | [], j, i, hj, _ => absurd hj (Nat.not_lt_zero _)
  | n :: t, 0, i, _, hi => by
    unfold fcR
    rw [List.flatMap_cons, Nat.zero_mul, Nat.zero_add, List.getElem?_append_left (by show i < 5; exact hi)]
    rfl
  | n :: t, j + 1, i, hj, hi => by
    have ih := fcR_get t j i (by simpa using hj) hi
    unfold fcR at ih ⊢
    rw [List.flatMap_cons, List.getElem?_append_right (by show 5 ≤ _; omega), show (j + 1) * 5 + i - (fcL n).length = j * 5 + i by show (j + 1) * 5 + i - 5 = _; omega, ih]
    simp [List.getD_eq_getElem?_getD]
theorem fcR_one {t : List Fct} : ∀ u ∈ fcR t, u.oneCell' = true := by
  intro u hu
  obtain ⟨n, _, h⟩ := List.mem_flatMap.1 hu
  unfold fcL at h
  simp at h
  rcases h with rfl | rfl | rfl | rfl | rfl <;> rfl
theorem fct_news {w : World} {b o : Nat} {t : List Fct} (hN : FctA w b o t) : ∀ j u, (fcR t)[j]? = some u → w.cell? ((⟨b, o, none⟩ : Addr).add j) = some u := by
  intro j u hu
  have hlt : j < t.length * 5 := by rw [← fcR_len]; exact (List.getElem?_eq_some_iff.1 hu).1
  obtain ⟨q, r, hr, rfl⟩ : ∃ q r, r < 5 ∧ j = q * 5 + r := ⟨j / 5, j % 5, by omega, by omega⟩
  have hq : q < t.length := by omega
  obtain ⟨c0, c1, c2, c3, c4⟩ := hN q hq
  rw [fcR_get t q r hq hr] at hu
  rw [Go.WideShapes.add_plain]
  match r, hr with
  | 0, _ => rw [Nat.add_zero, c0]; exact hu
  | 1, _ => rw [← Nat.add_assoc, c1]; exact hu
  | 2, _ => rw [← Nat.add_assoc, c2]; exact hu
  | 3, _ => rw [← Nat.add_assoc, c3]; exact hu
  | 4, _ => rw [← Nat.add_assoc, c4]; exact hu

/-- A slice of the call's own, in a block from base on, holds facts. -/
def OwnT (w : World) (base : Nat) (v : Value) (t : List Fct) : Prop := w.ownsRow base 89 5 v t.length (fcR t)
theorem OwnT.nil (w : World) (base : Nat) : OwnT w base (.slice none 0 0) [] := World.ownsRow_nil _ _ _ _
theorem OwnT.one (w : World) (base : Nat) (n : Fct) (hb : base ≤ w.heap.size) : OwnT (w.alloc (.cells #[.int .i64 n.k, .int .i64 n.d, .int .i64 n.x, .int .i64 n.y, .int .i64 n.p] 89)) base (.slice (some ⟨w.heap.size, 0, none⟩) 1 1) [n] :=
  World.ownsRow_lit w #[.int .i64 n.k, .int .i64 n.d, .int .i64 n.x, .int .i64 n.y, .int .i64 n.p] 1 hb (by unfold maxLen; omega) rfl
theorem OwnT.grown {w w' : World} {base : Nat} {v : Value} {t : List Fct} (h : OwnT w base v t) (hg : Below w.heap.size w w') : OwnT w' base v t := by
  obtain ⟨h1, h2⟩ := h
  refine ⟨h1, ?_⟩
  rcases h2 with h2 | ⟨g, cap, cur, rfl, hb, hc, h3⟩
  · exact Or.inl h2
  · refine Or.inr ⟨g, cap, cur, rfl, hb, ?_, h3⟩
    rw [hg.block g (Array.getElem?_eq_some_iff.1 hc).1]
    exact hc
theorem OwnT.base {w : World} {a b : Nat} {v : Value} {t : List Fct} (h : OwnT w b v t) (hab : a ≤ b) : OwnT w a v t := by
  obtain ⟨h1, h2⟩ := h
  refine ⟨h1, ?_⟩
  rcases h2 with h2 | ⟨g, cap, cur, rfl, hb, h3⟩
  · exact .inl h2
  · exact .inr ⟨g, cap, cur, rfl, Nat.le_trans hab hb, h3⟩
theorem OwnT.slice {w : World} {base : Nat} {v : Value} {t : List Fct} (h : OwnT w base v t) : ∃ a cap, v = .slice a t.length cap := by
  rcases h.2 with ⟨rfl, h2⟩ | ⟨g, cap, cur, rfl, _⟩
  · exact ⟨none, 0, by rw [h2]⟩
  · exact ⟨_, _, rfl⟩
theorem OwnT.sl {w : World} {base : Nat} {v : Value} {t : List Fct} (h : OwnT w base v t) : SlFct w v t := by
  obtain ⟨h1, h2⟩ := id h
  rcases h2 with ⟨rfl, h2⟩ | ⟨g, cap, cur, rfl, hb, hc, hn, hm, h3, h4⟩
  · exact .inl ⟨List.length_eq_zero_iff.1 h2, _, _, rfl⟩
  · by_cases h0 : t.length = 0
    · exact .inl ⟨List.length_eq_zero_iff.1 h0, some ⟨g, 0, none⟩, cap, by rw [h0]⟩
    · refine .inr ⟨by omega, g, 0, cap, rfl, hn, by unfold maxLen at hm; omega, fun j hj => ?_⟩
      have hcl := h.cells (g := g) rfl
      have k : ∀ i u, i < 5 → (fcL (t.getD j default))[i]? = some u → w.cell? ⟨g, 0 + j * 5 + i, none⟩ = some u := by
        intro i u hi hu
        have := hcl (j * 5 + i) u (by rw [fcR_get t j i hj hi]; exact hu)
        rw [Go.WideShapes.add_plain, ← Nat.add_assoc] at this
        exact this
      exact ⟨k 0 _ (by omega) rfl, k 1 _ (by omega) rfl, k 2 _ (by omega) rfl, k 3 _ (by omega) rfl, k 4 _ (by omega) rfl⟩
theorem OwnT.kept {w w' : World} {base : Nat} {v : Value} {t : List Fct} (h : OwnT w base v t) {row : Option Nat} (hg : w.grownBy w' row) (hne : v.ownBlock = none ∨ v.ownBlock ≠ row) : OwnT w' base v t := World.ownsRow.kept h hg hne

theorem infoFct : (Tryz.prog.info? 89).map (fun i => (i.zero, i.size, i.bytes)) = some (some (.agg #[.int .i64 0, .int .i64 0, .int .i64 0, .int .i64 0, .int .i64 0]), 5, 40) := by kernel_rfl

/-- Nothing is appended. -/
theorem run_append_noF {P : Program} {w : World} (base : Nat) (t ty e : TypeId) (i : TypeInfo) (size : Nat) (ht : P.underlying t = some (.slice e)) (hi : P.info? e = some i)
    (v : Value) (n : Nat) (xs : List Value) (hown : w.ownsRow base e size v n xs) (c : Nat) :
    (Builtin.append_ #[t, t] ty #[v, .slice none 0 c]).run P w = .ok v w := by
  rcases hown.2 with ⟨rfl, rfl⟩ | ⟨g, cap, cur, rfl, _, _, hnc, _⟩
  · simp [Builtin.append_, run_underlying ht, sizeOf, typeInfo, hi, Builtin.lenOf, Builtin.firstCells]
  · simp [Builtin.append_, run_underlying ht, sizeOf, typeInfo, hi, Builtin.lenOf, Builtin.firstCells, hnc, storeCells]

/-- Facts appended to facts of the call's own. -/
theorem wpList_append_fct {w : World} {ops : Array Oper} {rest : List Oper} {o : Oper} {a : Act} {Q : Exit → Act → World → Prop} (hgd : o.guard = none) (s x : Operand)
    (ho : o.op = .call { callee := .builtin .append, args := #[s, x], argTypes := #[39, 39] })
    (base : Nat) (v : Value) (t : List Fct) (hs : a.eval s = v) (hown : OwnT w base v t) (xv : Value) (u : List Fct) (hx : a.eval x = xv) (hsl : SlFct w xv u)
    (hlen : t.length + u.length ≤ 100000) (hbase : base ≤ w.heap.size)
    (h : ∀ v' w', OwnT w' base v' (t ++ u) → w.grownBy w' v.ownBlock → (v'.ownBlock = v.ownBlock ∨ v'.ownBlock = some w.heap.size) → wpList Tryz.prog ops Q rest (a.put o.dst v') w') : wpList Tryz.prog ops Q (o :: rest) a w := by
  obtain ⟨i0, hi0, hz0, hz1, hz2⟩ := info_parts infoFct
  have key : ∀ (ad : Addr) (c : Nat) , xv = .slice (some ad) u.length c → (∀ j z, (fcR u)[j]? = some z → w.cell? (ad.add j) = some z) → wpList Tryz.prog ops Q (o :: rest) a w := by
    intro ad c hxv hnews
    refine wpList_append_own_at _ hgd s x 39 ho base 89 i0 _ 5 40 Tryz.underlying39 hi0 hz0 hz1 hz2 rfl (by decide) v t.length (fcR t) hs hown ad u.length c (fcR u) (hx.trans hxv) (fcR_len u) hnews fcR_one (by unfold maxLen; omega) (by omega) hbase ?_
    intro v' w' h1 h2 _ h3
    refine h v' w' ?_ h2 h3
    unfold OwnT
    rw [List.length_append, fcR_app]; exact h1
  rcases hsl with ⟨rfl, ao, c, hv⟩ | ⟨_, b, off, c, hv, _, _, hN⟩
  · cases ao with
    | some ad => exact key ad c hv (fun j z hz => by cases hz)
    | none =>
      subst hv
      refine wpList_plain hgd fun K hK => ?_
      have hrun := run_append_noF (P := Tryz.prog) (w := w) base 39 o.type 89 i0 5 Tryz.underlying39 hi0 v _ _ hown c
      unfold Oper.wp
      simp only [execOp, ho, resolve, invoke, builtin, Sem.run_bind, Sem.run_pure, Result.andThen_ok, List.map_toArray, List.map_cons, List.map_nil, hs, hx, hrun]
      exact hK _ _ (h v w (by rw [List.append_nil]; exact hown) ⟨rfl, rfl, rfl, Nat.le_refl _, fun _ _ _ => rfl⟩ (.inl rfl))
  · exact key ⟨b, off, none⟩ c hv (fct_news hN)

/-- Below, behind an append to facts of the call's own. -/
theorem below_fct {B base : Nat} {w0 w w' : World} {v : Value} {t : List Fct} (hb : Below B w0 w) (ho : OwnT w base v t) (hB : B ≤ base) (hw : B ≤ w.heap.size) (hg : w.grownBy w' v.ownBlock) : Below B w0 w' := by
  refine hb.grown hg (by omega) (fun k hk => ?_)
  have := World.ownsRow.lt ho k hk
  omega


end Go.Proofs.YtjafbfepdmgjnaaGreatDoor

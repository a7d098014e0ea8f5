/-
  Slices of nodes that a call makes by append.
-/
import Derived.Test.YtgeneoamngfomaaGreatDoorTrm
import Derived.Laws.AppendOwnNone
import Derived.Maps.AppendAt
namespace Go.Proofs.YtgeneoamngfomaaGreatDoor
open Go.RowKit Go.Lib
set_option linter.unusedVariables false

/-- A node's cells, in a row. -/
def ndL (n : Nd) : List Value := [.int .i64 n.op, .int .i64 n.a, .int .i64 n.b, .int .i64 n.num, .int .i64 n.den]
def ndR (t : List Nd) : List Value := t.flatMap ndL
theorem ndR_len : ∀ t : List Nd, (ndR t).length = t.length * 5
  | [] => rfl
  | n :: t => by
    have := ndR_len t
    unfold ndR at this ⊢
    rw [List.flatMap_cons, List.length_append, this, List.length_cons]
    show 5 + _ = _
    omega
theorem ndR_app (t u : List Nd) : ndR (t ++ u) = ndR t ++ ndR u := by unfold ndR; rw [List.flatMap_append]
theorem ndR_get : ∀ (t : List Nd) (j i : Nat), j < t.length → i < 5 → (ndR t)[j * 5 + i]? = (ndL (t.getD j default))[i]?
  | [], j, i, hj, _ => absurd hj (Nat.not_lt_zero _)
  | n :: t, 0, i, _, hi => by
    unfold ndR
    rw [List.flatMap_cons, Nat.zero_mul, Nat.zero_add, List.getElem?_append_left (by show i < 5; exact hi)]
    rfl
  | n :: t, j + 1, i, hj, hi => by
    have ih := ndR_get t j i (by simpa using hj) hi
    unfold ndR at ih ⊢
    rw [List.flatMap_cons, List.getElem?_append_right (by show 5 ≤ _; omega), show (j + 1) * 5 + i - (ndL n).length = j * 5 + i by show (j + 1) * 5 + i - 5 = _; omega, ih]
    simp [List.getD_eq_getElem?_getD]
theorem ndR_one {t : List Nd} : ∀ u ∈ ndR t, u.oneCell' = true := by
  intro u hu
  obtain ⟨n, _, h⟩ := List.mem_flatMap.1 hu
  unfold ndL at h
  simp at h
  rcases h with rfl | rfl | rfl | rfl | rfl <;> rfl
theorem nd_news {w : World} {b o : Nat} {t : List Nd} (hN : NdA w b o t) : ∀ j u, (ndR t)[j]? = some u → w.cell? ((⟨b, o, none⟩ : Addr).add j) = some u := by
  intro j u hu
  have hlt : j < t.length * 5 := by rw [← ndR_len]; exact (List.getElem?_eq_some_iff.1 hu).1
  obtain ⟨q, r, hr, rfl⟩ : ∃ q r, r < 5 ∧ j = q * 5 + r := ⟨j / 5, j % 5, by omega, by omega⟩
  have hq : q < t.length := by omega
  obtain ⟨c0, c1, c2, c3, c4⟩ := hN q hq
  rw [ndR_get t q r hq hr] at hu
  rw [Go.WideShapes.add_plain]
  match r, hr with
  | 0, _ => rw [Nat.add_zero, c0]; exact hu
  | 1, _ => rw [← Nat.add_assoc, c1]; exact hu
  | 2, _ => rw [← Nat.add_assoc, c2]; exact hu
  | 3, _ => rw [← Nat.add_assoc, c3]; exact hu
  | 4, _ => rw [← Nat.add_assoc, c4]; exact hu

/-- A slice of the call's own, in a block from base on, holds nodes. -/
def OwnN (w : World) (base : Nat) (v : Value) (t : List Nd) : Prop := w.ownsRow base 60 5 v t.length (ndR t)
theorem OwnN.nil (w : World) (base : Nat) : OwnN w base (.slice none 0 0) [] := World.ownsRow_nil _ _ _ _
theorem OwnN.one (w : World) (base : Nat) (n : Nd) (hb : base ≤ w.heap.size) : OwnN (w.alloc (.cells #[.int .i64 n.op, .int .i64 n.a, .int .i64 n.b, .int .i64 n.num, .int .i64 n.den] 60)) base (.slice (some ⟨w.heap.size, 0, none⟩) 1 1) [n] :=
  World.ownsRow_lit w #[.int .i64 n.op, .int .i64 n.a, .int .i64 n.b, .int .i64 n.num, .int .i64 n.den] 1 hb (by unfold maxLen; omega) rfl
theorem OwnN.grown {w w' : World} {base : Nat} {v : Value} {t : List Nd} (h : OwnN w base v t) (hg : Below w.heap.size w w') : OwnN w' base v t := by
  obtain ⟨h1, h2⟩ := h
  refine ⟨h1, ?_⟩
  rcases h2 with h2 | ⟨g, cap, cur, rfl, hb, hc, h3⟩
  · exact Or.inl h2
  · refine Or.inr ⟨g, cap, cur, rfl, hb, ?_, h3⟩
    rw [hg.block g (Array.getElem?_eq_some_iff.1 hc).1]
    exact hc
theorem OwnN.base {w : World} {a b : Nat} {v : Value} {t : List Nd} (h : OwnN w b v t) (hab : a ≤ b) : OwnN w a v t := by
  obtain ⟨h1, h2⟩ := h
  refine ⟨h1, ?_⟩
  rcases h2 with h2 | ⟨g, cap, cur, rfl, hb, h3⟩
  · exact .inl h2
  · exact .inr ⟨g, cap, cur, rfl, Nat.le_trans hab hb, h3⟩
theorem OwnN.slice {w : World} {base : Nat} {v : Value} {t : List Nd} (h : OwnN w base v t) : ∃ a cap, v = .slice a t.length cap := by
  rcases h.2 with ⟨rfl, h2⟩ | ⟨g, cap, cur, rfl, _⟩
  · exact ⟨none, 0, by rw [h2]⟩
  · exact ⟨_, _, rfl⟩
theorem OwnN.sl {w : World} {base : Nat} {v : Value} {t : List Nd} (h : OwnN w base v t) : SlT w v t := by
  obtain ⟨h1, h2⟩ := id h
  rcases h2 with ⟨rfl, h2⟩ | ⟨g, cap, cur, rfl, hb, hc, hn, hm, h3, h4⟩
  · exact .inl ⟨List.length_eq_zero_iff.1 h2, _, _, rfl⟩
  · by_cases h0 : t.length = 0
    · exact .inl ⟨List.length_eq_zero_iff.1 h0, some ⟨g, 0, none⟩, cap, by rw [h0]⟩
    · refine .inr ⟨by omega, g, 0, cap, rfl, hn, by unfold maxLen at hm; omega, fun j hj => ?_⟩
      have hcl := h.cells (g := g) rfl
      have k : ∀ i u, i < 5 → (ndL (t.getD j default))[i]? = some u → w.cell? ⟨g, 0 + j * 5 + i, none⟩ = some u := by
        intro i u hi hu
        have := hcl (j * 5 + i) u (by rw [ndR_get t j i hj hi]; exact hu)
        rw [Go.WideShapes.add_plain, ← Nat.add_assoc] at this
        exact this
      exact ⟨k 0 _ (by omega) rfl, k 1 _ (by omega) rfl, k 2 _ (by omega) rfl, k 3 _ (by omega) rfl, k 4 _ (by omega) rfl⟩
theorem OwnN.kept {w w' : World} {base : Nat} {v : Value} {t : List Nd} (h : OwnN w base v t) {row : Option Nat} (hg : w.grownBy w' row) (hne : v.ownBlock = none ∨ v.ownBlock ≠ row) : OwnN w' base v t := World.ownsRow.kept h hg hne
theorem Own.kept {w w' : World} {base : Nat} {v : Value} {l : List Int} (h : YtgeneoamngfomaaGreatDoor.Own w base v l) {row : Option Nat} (hg : w.grownBy w' row) (hne : v.ownBlock = none ∨ v.ownBlock ≠ row) : YtgeneoamngfomaaGreatDoor.Own w' base v l := World.ownsRow.kept h hg hne

theorem infoND : (Tryz.prog.info? 60).map (fun i => (i.zero, i.size, i.bytes)) = some (some (.agg #[.int .i64 0, .int .i64 0, .int .i64 0, .int .i64 0, .int .i64 0]), 5, 40) := by kernel_rfl

/-- Nothing is appended. -/
theorem run_append_no {P : Program} {w : World} (base : Nat) (t ty e : TypeId) (i : TypeInfo) (size : Nat) (ht : P.underlying t = some (.slice e)) (hi : P.info? e = some i)
    (v : Value) (n : Nat) (xs : List Value) (hown : w.ownsRow base e size v n xs) (c : Nat) :
    (Builtin.append_ #[t, t] ty #[v, .slice none 0 c]).run P w = .ok v w := by
  rcases hown.2 with ⟨rfl, rfl⟩ | ⟨g, cap, cur, rfl, _, _, hnc, _⟩
  · simp [Builtin.append_, run_underlying ht, sizeOf, typeInfo, hi, Builtin.lenOf, Builtin.firstCells]
  · simp [Builtin.append_, run_underlying ht, sizeOf, typeInfo, hi, Builtin.lenOf, Builtin.firstCells, hnc, storeCells]

/-- Nodes appended to nodes of the call's own. -/
theorem wpList_append_nodes {w : World} {ops : Array Oper} {rest : List Oper} {o : Oper} {a : Act} {Q : Exit → Act → World → Prop} (hgd : o.guard = none) (s x : Operand)
    (ho : o.op = .call { callee := .builtin .append, args := #[s, x], argTypes := #[22, 22] })
    (base : Nat) (v : Value) (t : List Nd) (hs : a.eval s = v) (hown : OwnN w base v t) (xv : Value) (u : List Nd) (hx : a.eval x = xv) (hsl : SlT w xv u)
    (hlen : t.length + u.length ≤ 100000) (hbase : base ≤ w.heap.size)
    (h : ∀ v' w', OwnN w' base v' (t ++ u) → w.grownBy w' v.ownBlock → (v'.ownBlock = v.ownBlock ∨ v'.ownBlock = some w.heap.size) → wpList Tryz.prog ops Q rest (a.put o.dst v') w') : wpList Tryz.prog ops Q (o :: rest) a w := by
  obtain ⟨i0, hi0, hz0, hz1, hz2⟩ := info_parts infoND
  have key : ∀ (ad : Addr) (c : Nat) , xv = .slice (some ad) u.length c → (∀ j z, (ndR u)[j]? = some z → w.cell? (ad.add j) = some z) → wpList Tryz.prog ops Q (o :: rest) a w := by
    intro ad c hxv hnews
    refine wpList_append_own_at _ hgd s x 22 ho base 60 i0 _ 5 40 Tryz.underlying22 hi0 hz0 hz1 hz2 rfl (by decide) v t.length (ndR t) hs hown ad u.length c (ndR u) (hx.trans hxv) (ndR_len u) hnews ndR_one (by unfold maxLen; omega) (by omega) hbase ?_
    intro v' w' h1 h2 _ h3
    refine h v' w' ?_ h2 h3
    unfold OwnN
    rw [List.length_append, ndR_app]; exact h1
  rcases hsl with ⟨rfl, ao, c, hv⟩ | ⟨_, b, off, c, hv, _, _, hN⟩
  · cases ao with
    | some ad => exact key ad c hv (fun j z hz => by cases hz)
    | none =>
      subst hv
      refine wpList_plain hgd fun K hK => ?_
      have hrun := run_append_no (P := Tryz.prog) (w := w) base 22 o.type 60 i0 5 Tryz.underlying22 hi0 v _ _ hown c
      unfold Oper.wp
      simp only [execOp, ho, resolve, invoke, builtin, Sem.run_bind, Sem.run_pure, Result.andThen_ok, List.map_toArray, List.map_cons, List.map_nil, hs, hx, hrun]
      exact hK _ _ (h v w (by rw [List.append_nil]; exact hown) ⟨rfl, rfl, rfl, Nat.le_refl _, fun _ _ _ => rfl⟩ (.inl rfl))
  · exact key ⟨b, off, none⟩ c hv (nd_news hN)

theorem SlT.slice {w : World} {v : Value} {t : List Nd} (h : SlT w v t) : ∃ a cap, v = .slice a t.length cap := by
  rcases h with ⟨rfl, a, cap, rfl⟩ | ⟨_, b, o, cap, rfl, _⟩
  · exact ⟨_, _, rfl⟩
  · exact ⟨_, _, rfl⟩
end Go.Proofs.YtgeneoamngfomaaGreatDoor

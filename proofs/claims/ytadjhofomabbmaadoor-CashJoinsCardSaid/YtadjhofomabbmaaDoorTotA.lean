/-
  Slices of flows: their cells; flows appended to those of a call's own. The flows of a currency.
-/
import Derived.Test.YtadjhofomabbmaaDoorOwn
import Derived.Laws.AppendOwnNone
import Derived.Maps.AppendAt
import Derived.Lib.Hide
import Derived.WideShapes
namespace Go.Proofs.YtadjhofomabbmaaDoor
open Go.RowKit Go.Lib
set_option linter.unusedVariables false

/-- A flow. -/
structure Fl where
  day : Int
  cur : Int
  amt : Int
deriving Inhabited

theorem ltF {w : World} {b i : Nat} {v : Value} (h : w.cell? ⟨b, i, none⟩ = some v) : b < w.heap.size := by
  rcases Nat.lt_or_ge b w.heap.size with g | g
  · exact g
  · simp [World.cell?, Array.getElem?_eq_none g] at h
theorem keepF {w w' : World} {b i : Nat} {v : Value} (hb : Below w.heap.size w w') (h : w.cell? ⟨b, i, none⟩ = some v) : w'.cell? ⟨b, i, none⟩ = some v := (hb.cell (p := ⟨b, i, none⟩) (ltF h)).trans h
theorem newF (w : World) (o : Obj) : Below w.heap.size w (w.alloc o) := Below.alloc (Below.refl _ _) (Nat.le_refl _) _
theorem onF {w w1 w2 : World} (h : Below w.heap.size w w1) (h' : Below w1.heap.size w1 w2) : Below w.heap.size w w2 := h.trans (h'.mono h.size)

/-- A flow's cells. -/
structure FlC (w : World) (b p : Nat) (n : Fl) : Prop where
  c0 : w.cell? ⟨b, p, none⟩ = some (.int .i64 n.day)
  c1 : w.cell? ⟨b, p + 1, none⟩ = some (.int .i64 n.cur)
  c2 : w.cell? ⟨b, p + 2, none⟩ = some (.int .i64 n.amt)
theorem FlC.keep {w w' : World} {b p : Nat} {n : Fl} (h : FlC w b p n) (hb : Below w.heap.size w w') : FlC w' b p n :=
  ⟨keepF hb h.c0, keepF hb h.c1, keepF hb h.c2⟩
/-- A row of flows. -/
def FlA (w : World) (b o : Nat) (t : List Fl) : Prop := ∀ j, j < t.length → FlC w b (o + j * 3) (t.getD j default)
theorem FlA.keep {w w' : World} {b o : Nat} {t : List Fl} (h : FlA w b o t) (hb : Below w.heap.size w w') : FlA w' b o t := fun j hj => (h j hj).keep hb
/-- A slice's flows. -/
def SlF (w : World) (v : Value) (t : List Fl) : Prop := (t = [] ∧ ∃ a cap, v = .slice a 0 cap) ∨ (0 < t.length ∧ ∃ b o cap, v = .slice (some ⟨b, o, none⟩) t.length cap ∧ t.length ≤ cap ∧ cap ≤ 9223372036854775807 ∧ FlA w b o t)
theorem SlF.keep {w w' : World} {v : Value} {t : List Fl} (h : SlF w v t) (hb : Below w.heap.size w w') : SlF w' v t := by
  rcases h with h | ⟨h0, b, o, cap, h1, h2, h3, h4⟩
  · exact .inl h
  · exact .inr ⟨h0, b, o, cap, h1, h2, h3, h4.keep hb⟩
theorem SlF.slice {w : World} {v : Value} {t : List Fl} (h : SlF w v t) : ∃ a cap, v = .slice a t.length cap := by
  rcases h with ⟨rfl, a, cap, rfl⟩ | ⟨_, b, o, cap, rfl, _⟩
  · exact ⟨_, _, rfl⟩
  · exact ⟨_, _, rfl⟩

def flL (n : Fl) : List Value := [.int .i64 n.day, .int .i64 n.cur, .int .i64 n.amt]
def flR (t : List Fl) : List Value := t.flatMap flL
theorem flR_len : ∀ t : List Fl, (flR t).length = t.length * 3
  | [] => rfl
  | n :: t => by
    have := flR_len t
    unfold flR at this ⊢
    rw [List.flatMap_cons, List.length_append, this, List.length_cons]
    show 3 + _ = _
    omega
theorem flR_app (t u : List Fl) : flR (t ++ u) = flR t ++ flR u := by unfold flR; rw [List.flatMap_append]
theorem flR_get : ∀ (t : List Fl) (j i : Nat), j < t.length → i < 3 → (flR t)[j * 3 + i]? = (flL (t.getD j default))[i]?
  | [], j, i, hj, _ => absurd hj (Nat.not_lt_zero _)
  | n :: t, 0, i, _, hi => by
    unfold flR
    rw [List.flatMap_cons, Nat.zero_mul, Nat.zero_add, List.getElem?_append_left (by show i < 3; exact hi)]
    rfl
  | n :: t, j + 1, i, hj, hi => by
    have ih := flR_get t j i (by simpa using hj) hi
    unfold flR at ih ⊢
    rw [List.flatMap_cons, List.getElem?_append_right (by show 3 ≤ _; omega), show (j + 1) * 3 + i - (flL n).length = j * 3 + i by show (j + 1) * 3 + i - 3 = _; omega, ih]
    simp [List.getD_eq_getElem?_getD]
theorem flR_one {t : List Fl} : ∀ u ∈ flR t, u.oneCell' = true := by
  intro u hu
  obtain ⟨n, _, h⟩ := List.mem_flatMap.1 hu
  unfold flL at h
  simp at h
  rcases h with rfl | rfl | rfl <;> rfl
theorem fl_news {w : World} {b o : Nat} {t : List Fl} (hN : FlA w b o t) : ∀ j u, (flR t)[j]? = some u → w.cell? ((⟨b, o, none⟩ : Addr).add j) = some u := by
  intro j u hu
  have hlt : j < t.length * 3 := by rw [← flR_len]; exact (List.getElem?_eq_some_iff.1 hu).1
  obtain ⟨q, r, hr, rfl⟩ : ∃ q r, r < 3 ∧ j = q * 3 + r := ⟨j / 3, j % 3, by omega, by omega⟩
  have hq : q < t.length := by omega
  obtain ⟨c0, c1, c2⟩ := hN q hq
  rw [flR_get t q r hq hr] at hu
  rw [Go.WideShapes.add_plain]
  match r, hr with
  | 0, _ => rw [Nat.add_zero, c0]; exact hu
  | 1, _ => rw [← Nat.add_assoc, c1]; exact hu
  | 2, _ => rw [← Nat.add_assoc, c2]; exact hu

/-- A slice of the call's own, in a block from base on, holds flows. -/
def OwnF (w : World) (base : Nat) (v : Value) (t : List Fl) : Prop := w.ownsRow base 25 3 v t.length (flR t)
theorem OwnF.nil (w : World) (base : Nat) : OwnF w base (.slice none 0 0) [] := World.ownsRow_nil _ _ _ _
theorem OwnF.grown {w w' : World} {base : Nat} {v : Value} {t : List Fl} (h : OwnF w base v t) (hg : Below w.heap.size w w') : OwnF w' base v t := by
  obtain ⟨h1, h2⟩ := h
  refine ⟨h1, ?_⟩
  rcases h2 with h2 | ⟨g, cap, cur, rfl, hb, hc, h3⟩
  · exact Or.inl h2
  · refine Or.inr ⟨g, cap, cur, rfl, hb, ?_, h3⟩
    rw [hg.block g (Array.getElem?_eq_some_iff.1 hc).1]
    exact hc
theorem OwnF.slice {w : World} {base : Nat} {v : Value} {t : List Fl} (h : OwnF w base v t) : ∃ a cap, v = .slice a t.length cap := by
  rcases h.2 with ⟨rfl, h2⟩ | ⟨g, cap, cur, rfl, _⟩
  · exact ⟨none, 0, by rw [h2]⟩
  · exact ⟨_, _, rfl⟩
theorem OwnF.sl {w : World} {base : Nat} {v : Value} {t : List Fl} (h : OwnF w base v t) : SlF w v t := by
  obtain ⟨h1, h2⟩ := id h
  rcases h2 with ⟨rfl, h2⟩ | ⟨g, cap, cur, rfl, hb, hc, hn, hm, h3, h4⟩
  · exact .inl ⟨List.length_eq_zero_iff.1 h2, _, _, rfl⟩
  · by_cases h0 : t.length = 0
    · exact .inl ⟨List.length_eq_zero_iff.1 h0, some ⟨g, 0, none⟩, cap, by rw [h0]⟩
    · refine .inr ⟨by omega, g, 0, cap, rfl, hn, by unfold maxLen at hm; omega, fun j hj => ?_⟩
      have hcl := h.cells (g := g) rfl
      have k : ∀ i u, i < 3 → (flL (t.getD j default))[i]? = some u → w.cell? ⟨g, 0 + j * 3 + i, none⟩ = some u := by
        intro i u hi hu
        have := hcl (j * 3 + i) u (by rw [flR_get t j i hj hi]; exact hu)
        rw [Go.WideShapes.add_plain, ← Nat.add_assoc] at this
        exact this
      exact ⟨k 0 _ (by omega) rfl, k 1 _ (by omega) rfl, k 2 _ (by omega) rfl⟩

theorem infoFL : (Tryd.prog.info? 25).map (fun i => (i.zero, i.size, i.bytes)) = some (some (.agg #[.int .i64 0, .int .i64 0, .int .i64 0]), 3, 24) := by kernel_rfl

theorem run_append_noF {P : Program} {w : World} (base : Nat) (t ty e : TypeId) (i : TypeInfo) (size : Nat) (ht : P.underlying t = some (.slice e)) (hi : P.info? e = some i)
    (v : Value) (n : Nat) (xs : List Value) (hown : w.ownsRow base e size v n xs) (c : Nat) :
    (Builtin.append_ #[t, t] ty #[v, .slice none 0 c]).run P w = .ok v w := by
  rcases hown.2 with ⟨rfl, rfl⟩ | ⟨g, cap, cur, rfl, _, _, hnc, _⟩
  · simp [Builtin.append_, run_underlying ht, sizeOf, typeInfo, hi, Builtin.lenOf, Builtin.firstCells]
  · simp [Builtin.append_, run_underlying ht, sizeOf, typeInfo, hi, Builtin.lenOf, Builtin.firstCells, hnc, storeCells]

/-- Flows appended to flows of the call's own. -/
theorem wpList_append_flows {w : World} {ops : Array Oper} {rest : List Oper} {o : Oper} {a : Act} {Q : Exit → Act → World → Prop} (hgd : o.guard = none) (s x : Operand)
    (ho : o.op = .call { callee := .builtin .append, args := #[s, x], argTypes := #[22, 22] })
    (base : Nat) (v : Value) (t : List Fl) (hs : a.eval s = v) (hown : OwnF w base v t) (xv : Value) (u : List Fl) (hx : a.eval x = xv) (hsl : SlF w xv u)
    (hlen : t.length + u.length ≤ 100000) (hbase : base ≤ w.heap.size)
    (h : ∀ v' w', OwnF w' base v' (t ++ u) → w.grownBy w' v.ownBlock → (v'.ownBlock = v.ownBlock ∨ v'.ownBlock = some w.heap.size) → wpList Tryd.prog ops Q rest (a.put o.dst v') w') : wpList Tryd.prog ops Q (o :: rest) a w := by
  obtain ⟨i0, hi0, hz0, hz1, hz2⟩ := info_parts infoFL
  have key : ∀ (ad : Addr) (c : Nat) , xv = .slice (some ad) u.length c → (∀ j z, (flR u)[j]? = some z → w.cell? (ad.add j) = some z) → wpList Tryd.prog ops Q (o :: rest) a w := by
    intro ad c hxv hnews
    refine wpList_append_own_at _ hgd s x 22 ho base 25 i0 _ 3 24 Tryd.underlying22 hi0 hz0 hz1 hz2 rfl (by decide) v t.length (flR t) hs hown ad u.length c (flR u) (hx.trans hxv) (flR_len u) hnews flR_one (by unfold maxLen; omega) (by omega) hbase ?_
    intro v' w' h1 h2 _ h3
    refine h v' w' ?_ h2 h3
    unfold OwnF
    rw [List.length_append, flR_app]; exact h1
  rcases hsl with ⟨rfl, ao, c, hv⟩ | ⟨_, b, off, c, hv, _, _, hN⟩
  · cases ao with
    | some ad => exact key ad c hv (fun j z hz => by cases hz)
    | none =>
      subst hv
      refine wpList_plain hgd fun K hK => ?_
      have hrun := run_append_noF (P := Tryd.prog) (w := w) base 22 o.type 25 i0 3 Tryd.underlying22 hi0 v _ _ hown c
      unfold Oper.wp
      simp only [execOp, ho, resolve, invoke, builtin, Sem.run_bind, Sem.run_pure, Result.andThen_ok, List.map_toArray, List.map_cons, List.map_nil, hs, hx, hrun]
      exact hK _ _ (h v w (by rw [List.append_nil]; exact hown) ⟨rfl, rfl, rfl, Nat.le_refl _, fun _ _ _ => rfl⟩ (.inl rfl))
  · exact key ⟨b, off, none⟩ c hv (fl_news hN)
theorem below_flows {B base : Nat} {w0 w w' : World} {v : Value} {t : List Fl} (hb : Below B w0 w) (ho : OwnF w base v t) (hB : B ≤ base) (hw : B ≤ w.heap.size) (hg : w.grownBy w' v.ownBlock) : Below B w0 w' := by
  refine hb.grown hg (by omega) (fun k hk => ?_)
  have := World.ownsRow.lt ho k hk
  omega

/-- The amounts of a currency, of the first flows. -/
def amC (t : List Fl) (c : Nat) : Nat → List Int
  | 0 => []
  | k + 1 => amC t c k ++ (if (t.getD k default).cur = (c : Int) then [(t.getD k default).amt] else [])
theorem amC_len (t : List Fl) (c : Nat) : ∀ k, (amC t c k).length ≤ k
  | 0 => Nat.le_refl _
  | k + 1 => by
    have := amC_len t c k
    rw [amC, List.length_append]
    split
    · simp; omega
    · simp; omega
/-- Their sum. -/
def smC (t : List Fl) (c : Nat) : Nat → Int
  | 0 => 0
  | k + 1 => smC t c k + (if (t.getD k default).cur = (c : Int) then (t.getD k default).amt else 0)
theorem sumK_app (l m : List Int) : ∀ k, k ≤ l.length → sumK (l ++ m) k = sumK l k
  | 0, _ => rfl
  | k + 1, h => by
    rw [sumK, sumK, sumK_app l m k (by omega), List.getD_eq_getElem?_getD, List.getD_eq_getElem?_getD, List.getElem?_append_left (by omega)]
theorem sumL_snoc (l : List Int) (x : Int) : sumL (l ++ [x]) = sumL l + x := by
  unfold sumL
  rw [List.length_append, List.length_singleton, sumK, sumK_app l [x] l.length (Nat.le_refl _), List.getD_eq_getElem?_getD, List.getElem?_append_right (Nat.le_refl _), Nat.sub_self]; rfl
theorem smC_eq (t : List Fl) (c : Nat) : ∀ k, sumL (amC t c k) = smC t c k
  | 0 => rfl
  | k + 1 => by
    rw [amC, smC, ← smC_eq t c k]
    split
    · rw [sumL_snoc]
    · rw [List.append_nil, Int.add_zero]
/-- All amounts lie within 2 to the 50th. -/
def AmB (t : List Fl) : Prop := ∀ i, i < t.length → -1125899906842624 ≤ (t.getD i default).amt ∧ (t.getD i default).amt ≤ 1125899906842624
theorem smC_bd {t : List Fl} (h : AmB t) (c : Nat) : ∀ k, k ≤ t.length → -1125899906842624 * (k : Int) ≤ smC t c k ∧ smC t c k ≤ 1125899906842624 * (k : Int)
  | 0, _ => by simp [smC]
  | k + 1, hk => by
    have ih := smC_bd h c k (by omega)
    have hb := h k (by omega)
    rw [smC]
    split <;> omega
theorem amC_bd {t : List Fl} (h : AmB t) (c : Nat) : ∀ k, k ≤ t.length → ∀ x ∈ amC t c k, -1125899906842624 ≤ x ∧ x ≤ 1125899906842624
  | 0, _, x, hx => by simp [amC] at hx
  | k + 1, hk, x, hx => by
    rw [amC, List.mem_append] at hx
    rcases hx with hx | hx
    · exact amC_bd h c k (by omega) x hx
    · split at hx
      · simp at hx; rw [hx]; exact h k (by omega)
      · simp at hx
theorem amC_in {t : List Fl} (h : AmB t) (c k : Nat) (hk : k ≤ t.length) : InI (amC t c k) := by
  intro j
  rw [List.getD_eq_getElem?_getD]
  by_cases hj : j < (amC t c k).length
  · rw [List.getElem?_eq_getElem hj]
    have := amC_bd h c k hk _ (List.getElem_mem hj)
    show _ ≤ (amC t c k)[j] ∧ (amC t c k)[j] ≤ _
    omega
  · rw [List.getElem?_eq_none (by omega)]
    exact ⟨by decide, by decide⟩
/-- Sums of two rows, one behind the other. -/
theorem smC_app (t u : List Fl) (c : Nat) : ∀ k, smC (t ++ u) c (t.length + k) = smC t c t.length + smC u c k
  | 0 => by
    have : ∀ j, j ≤ t.length → smC (t ++ u) c j = smC t c j := by
      intro j
      induction j with
      | zero => intro _; rfl
      | succ j ih =>
        intro hj
        rw [smC, smC, ih (by omega), List.getD_eq_getElem?_getD, List.getElem?_append_left (by omega), ← List.getD_eq_getElem?_getD]
    rw [Nat.add_zero, this _ (Nat.le_refl _), smC, Int.add_zero]
  | k + 1 => by
    rw [← Nat.add_assoc, smC, smC_app t u c k, smC, List.getD_eq_getElem?_getD, List.getElem?_append_right (by omega), show t.length + k - t.length = k by omega, ← List.getD_eq_getElem?_getD]
    omega
theorem smC_all (t u : List Fl) (c : Nat) : smC (t ++ u) c (t ++ u).length = smC t c t.length + smC u c u.length := by rw [List.length_append]; exact smC_app t u c u.length
theorem smC_cons (x : Fl) (t : List Fl) (c : Nat) : smC (x :: t) c (x :: t).length = (if x.cur = (c : Int) then x.amt else 0) + smC t c t.length := by
  have h := smC_all [x] t c
  rw [List.singleton_append] at h
  rw [h, show smC [x] c [x].length = 0 + (if x.cur = (c : Int) then x.amt else 0) from rfl, Int.zero_add]
theorem smC_rev (c : Nat) : ∀ t : List Fl, smC t.reverse c t.reverse.length = smC t c t.length
  | [] => rfl
  | x :: t => by
    rw [List.reverse_cons, smC_all, smC_rev c t, smC_cons x t, smC_cons x []]
    show _ + (_ + 0) = _
    omega
/-- Is each currency there? -/
def GdC (t : List Fl) : Prop := ∀ i, i < t.length → 0 ≤ (t.getD i default).cur ∧ (t.getD i default).cur < 8
theorem gd_iff {t : List Fl} : GdC t ↔ ∀ x ∈ t, 0 ≤ x.cur ∧ x.cur < 8 := by
  constructor
  · intro h x hx
    obtain ⟨i, hi, rfl⟩ := List.getElem_of_mem hx
    have := h i hi
    rw [List.getD_eq_getElem?_getD, List.getElem?_eq_getElem hi] at this
    exact this
  · intro h i hi
    rw [List.getD_eq_getElem?_getD, List.getElem?_eq_getElem hi]
    exact h _ (List.getElem_mem hi)

end Go.Proofs.YtadjhofomabbmaaDoor

/-
  Rows of structs in memory, of a call's own and as they are read; what is appended.
-/
import Derived.Test.YtkfcaafjnolhgaaProg
import Derived.WalkKit
import Derived.PlainAid
import Derived.Sort.Row
import Derived.CellFam
import Derived.BigGuard
import Derived.BigCall
import Derived.RegionTactic
import Derived.BigRegion
import Derived.Deep.Draws
import Derived.Deep.QuietTactic
import Derived.BigQuiet
import Derived.Deep.OwnRows
import Derived.Below
import Derived.WalkMore
import Derived.Deep.LoopGhost
import Derived.Laws.AppendOwnNone
import Derived.Maps.AppendAt
import Derived.Deep.AppendLies
import Derived.Maps.OwnSet
import Derived.Maps.OwnOps
import Derived.Sort.Grow
import Derived.WideShapes
import Derived.Lib.Hide
import Derived.StillTailTactics
import Derived.Carry
import Derived.Sort.LotA
namespace Go.Proofs.Ytkfcaafjnolhgaa
open Go.RowKit Go.Lib Go.Maps Go.Sort
set_option linter.unusedVariables false
set_option linter.unusedSimpArgs false
set_option linter.unusedSectionVars false

theorem cell_other {w : World} {a b : Addr} {v : Value} (h : a ≠ b) : (w.setCell a v).cell? b = w.cell? b := by
  apply World.cell?_setCell_other; exact h
theorem cell_same {w : World} {a : Addr} {u v : Value} (h : w.cell? a = some u) : (w.setCell a v).cell? a = some v := by
  apply World.cell?_setCell_same; exact h

theorem addr_ne_block {b b' o o' : Nat} (h : b ≠ b') : (⟨b, o, none⟩ : Addr) ≠ ⟨b', o', none⟩ := fun e => h (congrArg Addr.block e)
theorem addr_ne_off {b b' o o' : Nat} (h : o ≠ o') : (⟨b, o, none⟩ : Addr) ≠ ⟨b', o', none⟩ := fun e => h (congrArg Addr.off e)
theorem ltF {w : World} {b i : Nat} {v : Value} (h : w.cell? ⟨b, i, none⟩ = some v) : b < w.heap.size := by
  rcases Nat.lt_or_ge b w.heap.size with hb | hb
  · exact hb
  · rw [World.cell?, Array.getElem?_eq_none (by simpa using hb)] at h; cases h
theorem newF (w : World) (o : Obj) : Below w.heap.size w (w.alloc o) := Below.alloc (Below.refl _ _) (Nat.le_refl _) _
theorem onF {w w1 w2 : World} (h : Below w.heap.size w w1) (h' : Below w1.heap.size w1 w2) : Below w.heap.size w w2 := h.trans (h'.mono h.size)
/-- A number of 64 bits. -/
def I64 (a : Int) : Prop := -9223372036854775808 ≤ a ∧ a ≤ 9223372036854775807
theorem wf64 {a : Int} (h : I64 a) : (Lit.int .i64 a).wf = true := by
  unfold Lit.wf
  rw [Bool.and_eq_true, decide_eq_true_iff, decide_eq_true_iff]
  exact h
theorem keepF {w w' : World} {b i : Nat} {v : Value} (hb : Below w.heap.size w w') (h : w.cell? ⟨b, i, none⟩ = some v) : w'.cell? ⟨b, i, none⟩ = some v := (hb.cell (p := ⟨b, i, none⟩) (ltF h)).trans h
theorem cellB {w w' : World} {row : Option Nat} (hg : w.grownBy w' row) {b i : Nat} {v : Value} (h : w.cell? ⟨b, i, none⟩ = some v) (hne : row ≠ some b) : w'.cell? ⟨b, i, none⟩ = some v := (World.cell?_of_block (hg.block b (ltF h) (fun e => hne e.symm))).trans h
theorem undrewB {w w' : World} (h : Below w.drew.heap.size w.drew w') : Below w.heap.size w w' := ⟨h.os, h.tape, h.output, h.size, h.block⟩

theorem ltT {w : World} {b i : Nat} {v : Value} (h : w.cell? ⟨b, i, none⟩ = some v) : b < w.heap.size := by
  rcases Nat.lt_or_ge b w.heap.size with g | g
  · exact g
  · simp [World.cell?, Array.getElem?_eq_none g] at h
theorem run_append_no {P : Program} {w : World} (base : Nat) (t ty e : TypeId) (i : TypeInfo) (size : Nat) (ht : P.underlying t = some (.slice e)) (hi : P.info? e = some i)
    (v : Value) (n : Nat) (xs : List Value) (hown : w.ownsRow base e size v n xs) (c : Nat) :
    (Builtin.append_ #[t, t] ty #[v, .slice none 0 c]).run P w = .ok v w := by
  rcases hown.2 with ⟨rfl, rfl⟩ | ⟨g, cap, cur, rfl, _, _, hnc, _⟩
  · simp [Builtin.append_, run_underlying ht, sizeOf, typeInfo, hi, Builtin.lenOf, Builtin.firstCells]
  · simp [Builtin.append_, run_underlying ht, sizeOf, typeInfo, hi, Builtin.lenOf, Builtin.firstCells, hnc, storeCells]

variable {α : Type} [Inhabited α]

theorem flx_len {E : α → List Value} {k : Nat} (hk : ∀ t, (E t).length = k) : ∀ l : List α, (l.flatMap E).length = l.length * k
  | [] => by simp
  | t :: l => by rw [List.flatMap_cons, List.length_append, flx_len hk l, hk, List.length_cons, Nat.add_mul, Nat.one_mul, Nat.add_comm]
theorem flx_get {E : α → List Value} {k : Nat} (hk : ∀ t, (E t).length = k) : ∀ (l : List α) (j i : Nat), j < l.length → i < k → (l.flatMap E)[j * k + i]? = (E (l.getD j default))[i]?
  | [], j, i, hj, _ => absurd hj (Nat.not_lt_zero _)
  | t :: l, 0, i, _, hi => by
    rw [List.flatMap_cons, Nat.zero_mul, Nat.zero_add, List.getElem?_append_left (by rw [hk]; exact hi)]
    rfl
  | t :: l, j + 1, i, hj, hi => by
    rw [List.flatMap_cons, List.getElem?_append_right (by rw [hk, Nat.add_mul]; omega), hk, show (j + 1) * k + i - k = j * k + i by rw [Nat.add_mul]; omega, flx_get hk l j i (by simpa using hj) hi]
    simp [List.getD_eq_getElem?_getD]
/-- A slice of the call's own, of structs. -/
def OwnX (E : α → List Value) (k : Nat) (ty : TypeId) (w : World) (base : Nat) (v : Value) (t : List α) : Prop := w.ownsRow base ty k v t.length (t.flatMap E)
/-- A row of structs, as it is read. -/
def RowX (E : α → List Value) (k : Nat) (w : World) (v : Value) (m : List α) : Prop :=
  (m = [] ∧ ∃ a c, v = .slice a 0 c) ∨ (0 < m.length ∧ ∃ b o cap, v = .slice (some ⟨b, o, none⟩) m.length cap ∧ m.length ≤ cap ∧ cap ≤ 9223372036854775807 ∧ ∀ j, j < m.length → ∀ i c, i < k → (E (m.getD j default))[i]? = some c → w.cell? ⟨b, o + j * k + i, none⟩ = some c)
omit [Inhabited α] in
theorem OwnX.nil (E : α → List Value) (k : Nat) (ty : TypeId) (w : World) (base : Nat) : OwnX E k ty w base (.slice none 0 0) [] := World.ownsRow_nil _ _ _ _
omit [Inhabited α] in
theorem OwnX.kept {E : α → List Value} {k : Nat} {ty : TypeId} {w w' : World} {base : Nat} {v : Value} {t : List α} (h : OwnX E k ty w base v t) {row : Option Nat} (hg : w.grownBy w' row) (hne : v.ownBlock = none ∨ v.ownBlock ≠ row) : OwnX E k ty w' base v t := World.ownsRow.kept h hg hne
omit [Inhabited α] in
theorem OwnX.grown {E : α → List Value} {k : Nat} {ty : TypeId} {w w' : World} {base : Nat} {v : Value} {t : List α} (h : OwnX E k ty w base v t) (hg : Below w.heap.size w w') : OwnX E k ty w' base v t := by
  obtain ⟨h1, h2⟩ := h
  refine ⟨h1, ?_⟩
  rcases h2 with h2 | ⟨g, cap, cur, rfl, hb, hc, h3⟩
  · exact Or.inl h2
  · refine Or.inr ⟨g, cap, cur, rfl, hb, ?_, h3⟩
    rw [hg.block g (Array.getElem?_eq_some_iff.1 hc).1]
    exact hc
omit [Inhabited α] in
theorem OwnX.base {E : α → List Value} {k : Nat} {ty : TypeId} {w : World} {a b : Nat} {v : Value} {t : List α} (h : OwnX E k ty w b v t) (hab : a ≤ b) : OwnX E k ty w a v t := by
  obtain ⟨h1, h2⟩ := h
  refine ⟨h1, ?_⟩
  rcases h2 with h2 | ⟨g, cap, cur, rfl, hb, h3⟩
  · exact .inl h2
  · exact .inr ⟨g, cap, cur, rfl, Nat.le_trans hab hb, h3⟩
omit [Inhabited α] in
theorem OwnX.slice {E : α → List Value} {k : Nat} {ty : TypeId} {w : World} {base : Nat} {v : Value} {t : List α} (h : OwnX E k ty w base v t) : ∃ a cap, v = .slice a t.length cap := by
  rcases h.2 with ⟨rfl, h2⟩ | ⟨g, cap, cur, rfl, _⟩
  · exact ⟨none, 0, by rw [h2]⟩
  · exact ⟨_, _, rfl⟩
omit [Inhabited α] in
theorem OwnX.lt {E : α → List Value} {k : Nat} {ty : TypeId} {w : World} {base : Nat} {v : Value} {t : List α} (h : OwnX E k ty w base v t) : ∀ j, v.ownBlock = some j → base ≤ j ∧ j < w.heap.size := fun j hj => World.ownsRow.lt h j hj
theorem OwnX.row {E : α → List Value} {k : Nat} (hk : ∀ t, (E t).length = k) {ty : TypeId} {w : World} {base : Nat} {v : Value} {m : List α} (h : OwnX E k ty w base v m) : RowX E k w v m := by
  obtain ⟨h1, h2⟩ := id h
  rcases h2 with ⟨rfl, h2⟩ | ⟨g, cap, cur, rfl, hb, hc, hn, hm, h3, h4⟩
  · exact .inl ⟨List.length_eq_zero_iff.1 h2, _, _, rfl⟩
  · by_cases h0 : m.length = 0
    · exact .inl ⟨List.length_eq_zero_iff.1 h0, some ⟨g, 0, none⟩, cap, by rw [h0]⟩
    · refine .inr ⟨by omega, g, 0, cap, rfl, hn, by unfold maxLen at hm; omega, fun j hj i c hi hcI => ?_⟩
      have hcl := World.ownsRow.cells (g := g) h rfl
      have := hcl (j * k + i) c (by rw [flx_get hk m j i hj hi]; exact hcI)
      rw [Go.WideShapes.add_plain, ← Nat.add_assoc] at this
      exact this
/-- The cells of a slice of the call's own that holds something. -/
theorem OwnX.at {E : α → List Value} {k : Nat} (hk : ∀ t, (E t).length = k) {ty : TypeId} {w : World} {base : Nat} {v : Value} {m : List α} (h : OwnX E k ty w base v m) (h0 : 0 < m.length) :
    ∃ g cap, v = .slice (some ⟨g, 0, none⟩) m.length cap ∧ base ≤ g ∧ m.length ≤ cap ∧ cap ≤ 9223372036854775807 ∧ ∀ j, j < m.length → ∀ i c, i < k → (E (m.getD j default))[i]? = some c → w.cell? ⟨g, j * k + i, none⟩ = some c := by
  obtain ⟨h1, h2⟩ := id h
  rcases h2 with ⟨_, h2⟩ | ⟨g, cap, cur, rfl, hb, hc, hn, hm, h3, h4⟩
  · omega
  · refine ⟨g, cap, rfl, hb, hn, by unfold maxLen at hm; omega, fun j hj i c hi hcI => ?_⟩
    have hcl := World.ownsRow.cells (g := g) h rfl
    have := hcl (j * k + i) c (by rw [flx_get hk m j i hj hi]; exact hcI)
    rw [Go.WideShapes.add_plain, Nat.zero_add] at this
    exact this
theorem RowX.keep {E : α → List Value} {k : Nat} {w w' : World} {v : Value} {m : List α} (h : RowX E k w v m) (hb : Below w.heap.size w w') : RowX E k w' v m := by
  rcases h with h | ⟨h0, g, o, cap, h1, h2, h3, h4⟩
  · exact .inl h
  · exact .inr ⟨h0, g, o, cap, h1, h2, h3, fun j hj i c hi hc => (hb.cell (p := ⟨g, o + j * k + i, none⟩) (ltT (h4 j hj i c hi hc))).trans (h4 j hj i c hi hc)⟩
theorem RowX.slice {E : α → List Value} {k : Nat} {w : World} {v : Value} {m : List α} (h : RowX E k w v m) : ∃ a cap, v = .slice a m.length cap := by
  rcases h with ⟨rfl, a, c, rfl⟩ | ⟨_, b, o, cap, rfl, _⟩
  · exact ⟨_, _, rfl⟩
  · exact ⟨_, _, rfl⟩
theorem RowX.news {E : α → List Value} {k : Nat} (hk : ∀ t, (E t).length = k) (k0 : 0 < k) {w : World} {b o : Nat} {m : List α} (h : ∀ j, j < m.length → ∀ i c, i < k → (E (m.getD j default))[i]? = some c → w.cell? ⟨b, o + j * k + i, none⟩ = some c) : ∀ j u, (m.flatMap E)[j]? = some u → w.cell? ((⟨b, o, none⟩ : Addr).add j) = some u := by
  intro j u hu
  have hlt : j < m.length * k := by rw [← flx_len hk]; exact (List.getElem?_eq_some_iff.1 hu).1
  have hq : j / k < m.length := Nat.div_lt_of_lt_mul (by rw [Nat.mul_comm]; exact hlt)
  have hr : j % k < k := Nat.mod_lt _ k0
  have et : j / k * k + j % k = j := by rw [Nat.mul_comm]; exact Nat.div_add_mod j k
  have := h (j / k) hq (j % k) u hr (by rw [← flx_get hk m _ _ hq hr, et]; exact hu)
  rw [Nat.add_assoc, et] at this
  rw [Go.WideShapes.add_plain]; exact this
/-- A slice from a place on, up to another one. -/
theorem RowX.part {E : α → List Value} {k : Nat} {w : World} {b o cap : Nat} {m : List α} (h : ∀ j, j < m.length → ∀ i c, i < k → (E (m.getD j default))[i]? = some c → w.cell? ⟨b, o + j * k + i, none⟩ = some c) (hc1 : m.length ≤ cap) (hc2 : cap ≤ 9223372036854775807) {lo hi : Nat} (h1 : lo ≤ hi) (h2 : hi ≤ m.length) : RowX E k w (.slice (some ⟨b, o + lo * k, none⟩) (hi - lo) (cap - lo)) ((m.take hi).drop lo) := by
  have hl : ((m.take hi).drop lo).length = hi - lo := by rw [List.length_drop, List.length_take]; omega
  by_cases h0 : hi - lo = 0
  · refine .inl ⟨List.length_eq_zero_iff.1 (hl.trans h0), _, _, by rw [h0]⟩
  · refine .inr ⟨by omega, b, o + lo * k, cap - lo, by rw [hl], by omega, by omega, fun j hj i c hi' hc => ?_⟩
    have e : ((m.take hi).drop lo).getD j default = m.getD (lo + j) default := by
      simp only [List.getD_eq_getElem?_getD, List.getElem?_drop]
      rw [List.getElem?_take_of_lt (by omega)]
    rw [e] at hc
    have := h (lo + j) (by omega) i c hi' hc
    rw [Nat.add_mul, ← Nat.add_assoc] at this
    exact this
omit [Inhabited α] in
theorem below_x {E : α → List Value} {k : Nat} {ty : TypeId} {B base : Nat} {w0 w w' : World} {v : Value} {t : List α} (hb : Below B w0 w) (ho : OwnX E k ty w base v t) (hB : B ≤ base) (hw : B ≤ w.heap.size) (hg : w.grownBy w' v.ownBlock) : Below B w0 w' := by
  refine hb.grown hg (by omega) (fun k hk => ?_)
  have := World.ownsRow.lt ho k hk
  omega

/-- Structs appended to structs of the call's own. -/
theorem wpList_append_x {E : α → List Value} {k : Nat} {ty sl : TypeId} {zs : Array Value} {bytes : Nat} (hk : ∀ t, (E t).length = k) (k0 : 0 < k) (hone : ∀ t, ∀ u ∈ E t, u.oneCell' = true)
    (hsl : Try.prog.underlying sl = some (.slice ty)) (hinfo : (Try.prog.info? ty).map (fun i => (i.zero, i.size, i.bytes)) = some (some (.agg zs), k, bytes)) (hzs : zs.size = k) (hby : bytes ≤ 100000)
    {w : World} {ops : Array Oper} {rest : List Oper} {o : Oper} {a : Act} {Q : Exit → Act → World → Prop} (hgd : o.guard = none) (s x : Operand)
    (ho : o.op = .call { callee := .builtin .append, args := #[s, x], argTypes := #[sl, sl] })
    (base : Nat) (v : Value) (t : List α) (hs : a.eval s = v) (hown : OwnX E k ty w base v t) (xv : Value) (u : List α) (hx : a.eval x = xv) (hr : RowX E k w xv u)
    (hlen : t.length + u.length ≤ 100000) (hbase : base ≤ w.heap.size)
    (h : ∀ v' w', OwnX E k ty w' base v' (t ++ u) → w.grownBy w' v.ownBlock → (v'.ownBlock = v.ownBlock ∨ v'.ownBlock = some w.heap.size) → wpList Try.prog ops Q rest (a.put o.dst v') w') : wpList Try.prog ops Q (o :: rest) a w := by
  obtain ⟨i0, hi0, hz0, hz1, hz2⟩ := info_parts hinfo
  have key : ∀ (ad : Addr) (c : Nat) , xv = .slice (some ad) u.length c → (∀ j z, (u.flatMap E)[j]? = some z → w.cell? (ad.add j) = some z) → wpList Try.prog ops Q (o :: rest) a w := by
    intro ad c hxv hnews
    refine wpList_append_own_at _ hgd s x sl ho base ty i0 _ k bytes hsl hi0 hz0 hz1 hz2 (by simpa [Value.cells] using hzs) k0 v t.length (t.flatMap E) hs hown ad u.length c (u.flatMap E) (hx.trans hxv) (flx_len hk u) hnews (fun z hz => by obtain ⟨y, _, hy⟩ := List.mem_flatMap.1 hz; exact hone y z hy) (by unfold maxLen; omega) (by have : (t.length + u.length) * bytes ≤ 100000 * 100000 := Nat.mul_le_mul hlen hby; omega) hbase ?_
    intro v' w' h1 h2 _ h3
    refine h v' w' ?_ h2 h3
    unfold OwnX
    rw [List.length_append, List.flatMap_append]; exact h1
  rcases hr with ⟨rfl, ao, c, hv⟩ | ⟨_, b, off, c, hv, _, _, hN⟩
  · cases ao with
    | some ad => exact key ad c hv (fun j z hz => by cases hz)
    | none =>
      subst hv
      refine wpList_plain hgd fun K hK => ?_
      have hrun := run_append_no (P := Try.prog) (w := w) base sl o.type ty i0 k hsl hi0 v _ _ hown c
      unfold Oper.wp
      simp only [execOp, ho, resolve, invoke, builtin, Sem.run_bind, Sem.run_pure, Result.andThen_ok, List.map_toArray, List.map_cons, List.map_nil, hs, hx, hrun]
      exact hK _ _ (h v w (by rw [List.append_nil]; exact hown) ⟨rfl, rfl, rfl, Nat.le_refl _, fun _ _ _ => rfl⟩ (.inl rfl))
  · exact key ⟨b, off, none⟩ c hv (RowX.news hk k0 hN)
/-- One struct, laid anew. -/
theorem rowx_new {E : α → List Value} {k : Nat} (hk : ∀ t, (E t).length = k) (w : World) (x : α) (cs : Array Value) (hcs : cs = (E x).toArray) (ty : TypeId) (b : Nat) (hb : b = w.heap.size) : RowX E k (w.alloc (.cells cs ty)) (.slice (some ⟨b, 0, none⟩) 1 1) [x] := by
  subst hcs hb
  refine .inr ⟨by simp, w.heap.size, 0, 1, rfl, by simp, by omega, fun j hj i c hi hc => ?_⟩
  obtain rfl : j = 0 := by simpa using hj
  rw [World.cell?_alloc_at _ _ _ _ rfl]
  simpa using hc

/-- One struct is appended, at a step of a region that draws its order. -/
theorem step_append_x {E : α → List Value} {k : Nat} {ty sl : TypeId} {zs : Array Value} {bytes : Nat} (hk : ∀ t, (E t).length = k) (k0 : 0 < k) (hone : ∀ t, ∀ u ∈ E t, u.oneCell' = true)
    (hsl : Try.prog.underlying sl = some (.slice ty)) (hinfo : (Try.prog.info? ty).map (fun i => (i.zero, i.size, i.bytes)) = some (some (.agg zs), k, bytes)) (hzs : zs.size = k) (hby : bytes ≤ 100000)
    {W : World} {te : TypeId} {ops : Array Oper} {o : Oper} {a : Act} {K : Act → World → Prop} {Q : Exit → Act → World → Prop} {Ex : Prop} (hgd : o.guard = none) (s x : Operand)
    (ho : o.op = .call { callee := .builtin .append, args := #[s, x], argTypes := #[sl, sl] })
    (base : Nat) (v : Value) (t : List α) (hs : a.eval s = v) (hown : OwnX E k ty W base v t) (y : α) {cs : Array Value} (hcs : cs = (E y).toArray) (b : Nat) (hb : b = W.heap.size) (hx : a.eval x = .slice (some ⟨b, 0, none⟩) 1 1)
    (hlen : t.length + 1 ≤ 100000) (hbase : base ≤ W.heap.size)
    (h : ∀ g cap w', OwnX E k ty w' base (.slice (some ⟨g, 0, none⟩) (t.length + 1) cap) (t ++ [y]) → (W.alloc (.cells cs te)).grownBy w' v.ownBlock → ((Value.slice (some ⟨g, 0, none⟩) (t.length + 1) cap).ownBlock = v.ownBlock ∨ (Value.slice (some ⟨g, 0, none⟩) (t.length + 1) cap).ownBlock = some (W.alloc (.cells cs te)).heap.size) → K (a.put o.dst (.slice (some ⟨g, 0, none⟩) (t.length + 1) cap)) w') :
    if Region.wanted o (yielded ops a.tmps) = true then Oper.wp Try.prog o a (W.alloc (.cells cs te)) K Q else Ex := by
  obtain ⟨i0, hi0, hz0, hz1, hz2⟩ := info_parts hinfo
  subst hcs hb
  have hE1 : [y].flatMap E = E y := by simp
  refine step_append_lies _ hgd s x sl ho base ty i0 _ k bytes hsl hi0 hz0 hz1 hz2 (by simpa [Value.cells] using hzs) k0 v t.length (t.flatMap E) hs (hown.grown (newF W _)) ⟨W.heap.size, 0, none⟩ 1 1 (E y) hx (by rw [hk, Nat.one_mul]) (fun j u hu => World.news_of_block (heap_alloc_new W _) j u (by simpa using hu)) (hone y) (by omega) (by unfold maxLen; omega) (by have : (t.length + 1) * bytes ≤ 100000 * 100000 := Nat.mul_le_mul hlen hby; omega) (by simp; omega) _ rfl ?_
  intro g cap w' h1 h2 h3 _
  refine h g cap w' ?_ h2 ?_
  · unfold OwnX
    rw [List.length_append, List.flatMap_append, hE1]; exact h1
  · rcases h3 with e | e
    · exact .inl e.symm
    · right; subst e; rfl

end Go.Proofs.Ytkfcaafjnolhgaa

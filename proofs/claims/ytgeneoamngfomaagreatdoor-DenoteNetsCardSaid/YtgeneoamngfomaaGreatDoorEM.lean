/-
  Rows of structs of any kind, of a call's own and as they are read; what is appended, what is sorted.
-/
import Derived.Test.YtgeneoamngfomaaGreatDoorEA
import Derived.Test.YtgeneoamngfomaaGreatDoorJnA
import Derived.Test.YtgeneoamngfomaaGreatDoorFcE
import Derived.Maps.AppendAt
import Derived.Deep.AppendLies
import Derived.Shelf.SlSortCmp.NoneTotal
import Derived.Sort.Grow
import Derived.Test.YtgeneoamngfomaaGreatDoorRtJ
import Derived.Test.YtgeneoamngfomaaGreatDoorVlP
import Derived.Test.YtgeneoamngfomaaGreatDoorTrm
import Derived.Deep.RegionHeld3
namespace Go.Proofs.YtgeneoamngfomaaGreatDoor
open Go.RowKit Go.Lib Go.Maps Go.Sort Go.Shelf
set_option linter.unusedVariables false
set_option linter.unusedSimpArgs false
set_option linter.unusedSectionVars false
variable {α : Type} [Inhabited α]

theorem flx_len {E : α → List Value} {k : Nat} (hk : ∀ t, (E t).length = k) : ∀ l : List α, (l.flatMap E).length = l.length * k
  | [] => by simp
  | t :: l => by rw [List.flatMap_cons, List.length_append, flx_len hk l, hk, List.length_cons, Nat.add_mul, Nat.one_mul, Nat.add_comm]
theorem flx_get {E : α → List Value} {k : Nat} (hk : ∀ t, (E t).length = k) : ∀ (l : List α) (j i : Nat), j < l.length → i < k → (l.flatMap E)[j * k + i]? = (E (l.getD j default))[i]?
  | [], j, i, hj, _ => absurd hj (Nat.not_lt_zero _)
  | t :: l, 0, i, _, hi => by
    rw [List.flatMap_cons, Nat.zero_mul, Nat.zero_add, List.getElem?_append_left (by rw [hk]; exact hi)]
    rfl
  | t :: l, j + 1, i, hj, hi => by
    rw [List.flatMap_cons, List.getElem?_append_right (by rw [hk, Nat.add_mul]; omega), hk, show (j + 1) * k + i - k = j * k + i by rw [Nat.add_mul]; omega, flx_get hk l j i (by simpa using hj) hi]
    simp [List.getD_eq_getElem?_getD]
theorem flxK_list {E : α → List Value} {k : Nat} (hk : ∀ t, (E t).length = k) (k0 : 0 < k) (l : List α) : flatK E k l.toArray = (l.flatMap E).toArray := by
  refine ext_get! (by simp [flx_len hk]) fun t ht => ?_
  have ht' : t < l.length * k := by simpa using ht
  rw [get_flatK _ _ _ t (by simpa using ht')]
  have hq : t / k < l.length := Nat.div_lt_of_lt_mul (by rw [Nat.mul_comm]; exact ht')
  have hr : t % k < k := Nat.mod_lt _ k0
  have hg := flx_get hk l (t / k) (t % k) hq hr
  have et : t / k * k + t % k = t := by rw [Nat.mul_comm]; exact Nat.div_add_mod t k
  rw [et] at hg
  have e1 : (l.flatMap E).toArray[t]! = ((l.flatMap E)[t]?).getD default := by simp
  rw [e1, hg]
  have e2 : l.toArray[t / k]! = l.getD (t / k) default := by simp [List.getD_eq_getElem?_getD]
  rw [e2]
  simp
theorem holds_of_blockX {w : World} {g : Nat} {cur : Array Value} {e : TypeId} {xs : List Value} (hb : w.heap[g]? = some (.cells cur e (0, 0))) (ht : cur.toList.take xs.length = xs) : Holds id w g 0 xs.toArray := by
  intro j hj
  have hj' : j < xs.length := by simpa using hj
  refine ⟨?_, by simp [World.frozen?, hb]⟩
  have h1 : (cur.toList.take xs.length)[j]? = xs[j]? := by rw [ht]
  rw [List.getElem?_take_of_lt hj'] at h1
  simp only [World.cell?, hb, Nat.zero_add]
  simp only [Option.isSome_none, Bool.false_eq_true, if_false]
  rw [← Array.getElem?_toList, h1]
  simp [hj']
theorem heap_sortedX {w : World} {g n : Nat} {os : Array Obj} {cur : Array Value} {e : TypeId} {fr : Nat × Nat} (d : Array Value) (hb : w.heap[g]? = some (.cells cur e fr)) :
    (grow (putRow id (Sort.ahead w n) g 0 d) os).heap[g]? = some (.cells (putCells id 0 d cur) e fr) := by
  have hg : g < w.heap.size := (Array.getElem?_eq_some_iff.1 hb).1
  rw [heap_grow_old _ _ (by simpa using hg)]
  simp [putRow, mapBlock, Sort.ahead, Array.getElem?_modify, hb, onCells]
theorem grownBy_sortedX {w : World} {g n : Nat} {os : Array Obj} (d : Array Value) : w.grownBy (grow (putRow id (Sort.ahead w n) g 0 d) os) (some g) := by
  refine ⟨rfl, rfl, rfl, by simp, fun k hk hne => ?_⟩
  rw [heap_grow_old _ _ (by simpa using hk)]
  have : g ≠ k := fun e => hne (by rw [e])
  simp [putRow, mapBlock, Sort.ahead, Array.getElem?_modify, this]
theorem take_putCellsX (cur : Array Value) (ts : List Value) (h : ts.length ≤ cur.size) : (putCells id 0 ts.toArray cur).toList.take ts.length = ts := by
  apply List.ext_getElem?
  intro j
  by_cases hj : j < ts.length
  · rw [List.getElem?_take_of_lt hj, Array.getElem?_toList]
    simp [putCells, hj, show j < cur.size by omega]
  · rw [List.getElem?_take_eq_none (by omega), List.getElem?_eq_none (by omega)]

/-- A slice of the call's own, of structs. -/
def OwnX (E : α → List Value) (k : Nat) (ty : TypeId) (w : World) (base : Nat) (v : Value) (t : List α) : Prop := w.ownsRow base ty k v t.length (t.flatMap E)
/-- A row of structs, as it is read. -/
def RowX (E : α → List Value) (k : Nat) (w : World) (v : Value) (m : List α) : Prop :=
  (m = [] ∧ ∃ a c, v = .slice a 0 c) ∨ (0 < m.length ∧ ∃ b o cap, v = .slice (some ⟨b, o, none⟩) m.length cap ∧ m.length ≤ cap ∧ cap ≤ 9223372036854775807 ∧ ∀ j, j < m.length → ∀ i c, i < k → (E (m.getD j default))[i]? = some c → w.cell? ⟨b, o + j * k + i, none⟩ = some c)
omit [Inhabited α] in
theorem OwnX.nil (E : α → List Value) (k : Nat) (ty : TypeId) (w : World) (base : Nat) : OwnX E k ty w base (.slice none 0 0) [] := World.ownsRow_nil _ _ _ _
omit [Inhabited α] in
theorem OwnX.kept {E : α → List Value} {k : Nat} {ty : TypeId} {w w' : World} {base : Nat} {v : Value} {t : List α} (h : OwnX E k ty w base v t) {row : Option Nat} (hg : w.grownBy w' row) (hne : v.ownBlock = none ∨ v.ownBlock ≠ row) : OwnX E k ty w' base v t := World.ownsRow.kept h hg hne
omit [Inhabited α] in
theorem OwnX.grown {E : α → List Value} {k : Nat} {ty : TypeId} {w w' : World} {base : Nat} {v : Value} {t : List α} (h : OwnX E k ty w base v t) (hg : Below w.heap.size w w') : OwnX E k ty w' base v t := by
  obtain ⟨h1, h2⟩ := h
  refine ⟨h1, ?_⟩
  rcases h2 with h2 | ⟨g, cap, cur, rfl, hb, hc, h3⟩
  · exact Or.inl h2
  · refine Or.inr ⟨g, cap, cur, rfl, hb, ?_, h3⟩
    rw [hg.block g (Array.getElem?_eq_some_iff.1 hc).1]
    exact hc
omit [Inhabited α] in
theorem OwnX.base {E : α → List Value} {k : Nat} {ty : TypeId} {w : World} {a b : Nat} {v : Value} {t : List α} (h : OwnX E k ty w b v t) (hab : a ≤ b) : OwnX E k ty w a v t := by
  obtain ⟨h1, h2⟩ := h
  refine ⟨h1, ?_⟩
  rcases h2 with h2 | ⟨g, cap, cur, rfl, hb, h3⟩
  · exact .inl h2
  · exact .inr ⟨g, cap, cur, rfl, Nat.le_trans hab hb, h3⟩
omit [Inhabited α] in
theorem OwnX.slice {E : α → List Value} {k : Nat} {ty : TypeId} {w : World} {base : Nat} {v : Value} {t : List α} (h : OwnX E k ty w base v t) : ∃ a cap, v = .slice a t.length cap := by
  rcases h.2 with ⟨rfl, h2⟩ | ⟨g, cap, cur, rfl, _⟩
  · exact ⟨none, 0, by rw [h2]⟩
  · exact ⟨_, _, rfl⟩
omit [Inhabited α] in
theorem OwnX.lt {E : α → List Value} {k : Nat} {ty : TypeId} {w : World} {base : Nat} {v : Value} {t : List α} (h : OwnX E k ty w base v t) : ∀ j, v.ownBlock = some j → base ≤ j ∧ j < w.heap.size := fun j hj => World.ownsRow.lt h j hj
theorem OwnX.row {E : α → List Value} {k : Nat} (hk : ∀ t, (E t).length = k) {ty : TypeId} {w : World} {base : Nat} {v : Value} {m : List α} (h : OwnX E k ty w base v m) : RowX E k w v m := by
  obtain ⟨h1, h2⟩ := id h
  rcases h2 with ⟨rfl, h2⟩ | ⟨g, cap, cur, rfl, hb, hc, hn, hm, h3, h4⟩
  · exact .inl ⟨List.length_eq_zero_iff.1 h2, _, _, rfl⟩
  · by_cases h0 : m.length = 0
    · exact .inl ⟨List.length_eq_zero_iff.1 h0, some ⟨g, 0, none⟩, cap, by rw [h0]⟩
    · refine .inr ⟨by omega, g, 0, cap, rfl, hn, by unfold maxLen at hm; omega, fun j hj i c hi hcI => ?_⟩
      have hcl := World.ownsRow.cells (g := g) h rfl
      have := hcl (j * k + i) c (by rw [flx_get hk m j i hj hi]; exact hcI)
      rw [Go.WideShapes.add_plain, ← Nat.add_assoc] at this
      exact this
/-- The cells of a slice of the call's own that holds something. -/
theorem OwnX.at {E : α → List Value} {k : Nat} (hk : ∀ t, (E t).length = k) {ty : TypeId} {w : World} {base : Nat} {v : Value} {m : List α} (h : OwnX E k ty w base v m) (h0 : 0 < m.length) :
    ∃ g cap, v = .slice (some ⟨g, 0, none⟩) m.length cap ∧ base ≤ g ∧ m.length ≤ cap ∧ cap ≤ 9223372036854775807 ∧ ∀ j, j < m.length → ∀ i c, i < k → (E (m.getD j default))[i]? = some c → w.cell? ⟨g, j * k + i, none⟩ = some c := by
  obtain ⟨h1, h2⟩ := id h
  rcases h2 with ⟨_, h2⟩ | ⟨g, cap, cur, rfl, hb, hc, hn, hm, h3, h4⟩
  · omega
  · refine ⟨g, cap, rfl, hb, hn, by unfold maxLen at hm; omega, fun j hj i c hi hcI => ?_⟩
    have hcl := World.ownsRow.cells (g := g) h rfl
    have := hcl (j * k + i) c (by rw [flx_get hk m j i hj hi]; exact hcI)
    rw [Go.WideShapes.add_plain, Nat.zero_add] at this
    exact this
theorem RowX.keep {E : α → List Value} {k : Nat} {w w' : World} {v : Value} {m : List α} (h : RowX E k w v m) (hb : Below w.heap.size w w') : RowX E k w' v m := by
  rcases h with h | ⟨h0, g, o, cap, h1, h2, h3, h4⟩
  · exact .inl h
  · exact .inr ⟨h0, g, o, cap, h1, h2, h3, fun j hj i c hi hc => (hb.cell (p := ⟨g, o + j * k + i, none⟩) (ltT (h4 j hj i c hi hc))).trans (h4 j hj i c hi hc)⟩
theorem RowX.slice {E : α → List Value} {k : Nat} {w : World} {v : Value} {m : List α} (h : RowX E k w v m) : ∃ a cap, v = .slice a m.length cap := by
  rcases h with ⟨rfl, a, c, rfl⟩ | ⟨_, b, o, cap, rfl, _⟩
  · exact ⟨_, _, rfl⟩
  · exact ⟨_, _, rfl⟩
theorem RowX.news {E : α → List Value} {k : Nat} (hk : ∀ t, (E t).length = k) (k0 : 0 < k) {w : World} {b o : Nat} {m : List α} (h : ∀ j, j < m.length → ∀ i c, i < k → (E (m.getD j default))[i]? = some c → w.cell? ⟨b, o + j * k + i, none⟩ = some c) : ∀ j u, (m.flatMap E)[j]? = some u → w.cell? ((⟨b, o, none⟩ : Addr).add j) = some u := by
  intro j u hu
  have hlt : j < m.length * k := by rw [← flx_len hk]; exact (List.getElem?_eq_some_iff.1 hu).1
  have hq : j / k < m.length := Nat.div_lt_of_lt_mul (by rw [Nat.mul_comm]; exact hlt)
  have hr : j % k < k := Nat.mod_lt _ k0
  have et : j / k * k + j % k = j := by rw [Nat.mul_comm]; exact Nat.div_add_mod j k
  have := h (j / k) hq (j % k) u hr (by rw [← flx_get hk m _ _ hq hr, et]; exact hu)
  rw [Nat.add_assoc, et] at this
  rw [Go.WideShapes.add_plain]; exact this
/-- A slice from a place on, up to another one. -/
theorem RowX.part {E : α → List Value} {k : Nat} {w : World} {b o cap : Nat} {m : List α} (h : ∀ j, j < m.length → ∀ i c, i < k → (E (m.getD j default))[i]? = some c → w.cell? ⟨b, o + j * k + i, none⟩ = some c) (hc1 : m.length ≤ cap) (hc2 : cap ≤ 9223372036854775807) {lo hi : Nat} (h1 : lo ≤ hi) (h2 : hi ≤ m.length) : RowX E k w (.slice (some ⟨b, o + lo * k, none⟩) (hi - lo) (cap - lo)) ((m.take hi).drop lo) := by
  have hl : ((m.take hi).drop lo).length = hi - lo := by rw [List.length_drop, List.length_take]; omega
  by_cases h0 : hi - lo = 0
  · refine .inl ⟨List.length_eq_zero_iff.1 (hl.trans h0), _, _, by rw [h0]⟩
  · refine .inr ⟨by omega, b, o + lo * k, cap - lo, by rw [hl], by omega, by omega, fun j hj i c hi' hc => ?_⟩
    have e : ((m.take hi).drop lo).getD j default = m.getD (lo + j) default := by
      simp only [List.getD_eq_getElem?_getD, List.getElem?_drop]
      rw [List.getElem?_take_of_lt (by omega)]
    rw [e] at hc
    have := h (lo + j) (by omega) i c hi' hc
    rw [Nat.add_mul, ← Nat.add_assoc] at this
    exact this
omit [Inhabited α] in
theorem below_x {E : α → List Value} {k : Nat} {ty : TypeId} {B base : Nat} {w0 w w' : World} {v : Value} {t : List α} (hb : Below B w0 w) (ho : OwnX E k ty w base v t) (hB : B ≤ base) (hw : B ≤ w.heap.size) (hg : w.grownBy w' v.ownBlock) : Below B w0 w' := by
  refine hb.grown hg (by omega) (fun k hk => ?_)
  have := World.ownsRow.lt ho k hk
  omega

/-- Structs appended to structs of the call's own. -/
theorem wpList_append_x {E : α → List Value} {k : Nat} {ty sl : TypeId} {zs : Array Value} {bytes : Nat} (hk : ∀ t, (E t).length = k) (k0 : 0 < k) (hone : ∀ t, ∀ u ∈ E t, u.oneCell' = true)
    (hsl : Tryz.prog.underlying sl = some (.slice ty)) (hinfo : (Tryz.prog.info? ty).map (fun i => (i.zero, i.size, i.bytes)) = some (some (.agg zs), k, bytes)) (hzs : zs.size = k) (hby : bytes ≤ 100000)
    {w : World} {ops : Array Oper} {rest : List Oper} {o : Oper} {a : Act} {Q : Exit → Act → World → Prop} (hgd : o.guard = none) (s x : Operand)
    (ho : o.op = .call { callee := .builtin .append, args := #[s, x], argTypes := #[sl, sl] })
    (base : Nat) (v : Value) (t : List α) (hs : a.eval s = v) (hown : OwnX E k ty w base v t) (xv : Value) (u : List α) (hx : a.eval x = xv) (hr : RowX E k w xv u)
    (hlen : t.length + u.length ≤ 100000) (hbase : base ≤ w.heap.size)
    (h : ∀ v' w', OwnX E k ty w' base v' (t ++ u) → w.grownBy w' v.ownBlock → (v'.ownBlock = v.ownBlock ∨ v'.ownBlock = some w.heap.size) → wpList Tryz.prog ops Q rest (a.put o.dst v') w') : wpList Tryz.prog ops Q (o :: rest) a w := by
  obtain ⟨i0, hi0, hz0, hz1, hz2⟩ := info_parts hinfo
  have key : ∀ (ad : Addr) (c : Nat) , xv = .slice (some ad) u.length c → (∀ j z, (u.flatMap E)[j]? = some z → w.cell? (ad.add j) = some z) → wpList Tryz.prog ops Q (o :: rest) a w := by
    intro ad c hxv hnews
    refine wpList_append_own_at _ hgd s x sl ho base ty i0 _ k bytes hsl hi0 hz0 hz1 hz2 (by simpa [Value.cells] using hzs) k0 v t.length (t.flatMap E) hs hown ad u.length c (u.flatMap E) (hx.trans hxv) (flx_len hk u) hnews (fun z hz => by obtain ⟨y, _, hy⟩ := List.mem_flatMap.1 hz; exact hone y z hy) (by unfold maxLen; omega) (by have : (t.length + u.length) * bytes ≤ 100000 * 100000 := Nat.mul_le_mul hlen hby; omega) hbase ?_
    intro v' w' h1 h2 _ h3
    refine h v' w' ?_ h2 h3
    unfold OwnX
    rw [List.length_append, List.flatMap_append]; exact h1
  rcases hr with ⟨rfl, ao, c, hv⟩ | ⟨_, b, off, c, hv, _, _, hN⟩
  · cases ao with
    | some ad => exact key ad c hv (fun j z hz => by cases hz)
    | none =>
      subst hv
      refine wpList_plain hgd fun K hK => ?_
      have hrun := run_append_no (P := Tryz.prog) (w := w) base sl o.type ty i0 k hsl hi0 v _ _ hown c
      unfold Oper.wp
      simp only [execOp, ho, resolve, invoke, builtin, Sem.run_bind, Sem.run_pure, Result.andThen_ok, List.map_toArray, List.map_cons, List.map_nil, hs, hx, hrun]
      exact hK _ _ (h v w (by rw [List.append_nil]; exact hown) ⟨rfl, rfl, rfl, Nat.le_refl _, fun _ _ _ => rfl⟩ (.inl rfl))
  · exact key ⟨b, off, none⟩ c hv (RowX.news hk k0 hN)
/-- One struct, laid anew. -/
theorem rowx_new {E : α → List Value} {k : Nat} (hk : ∀ t, (E t).length = k) (w : World) (x : α) (cs : Array Value) (hcs : cs = (E x).toArray) (ty : TypeId) (b : Nat) (hb : b = w.heap.size) : RowX E k (w.alloc (.cells cs ty)) (.slice (some ⟨b, 0, none⟩) 1 1) [x] := by
  subst hcs hb
  refine .inr ⟨by simp, w.heap.size, 0, 1, rfl, by simp, by omega, fun j hj i c hi hc => ?_⟩
  obtain rfl : j = 0 := by simpa using hj
  rw [World.cell?_alloc_at _ _ _ _ rfl]
  simpa using hc

/-- One struct is appended, at a step of a region that draws its order. -/
theorem step_append_x {E : α → List Value} {k : Nat} {ty sl : TypeId} {zs : Array Value} {bytes : Nat} (hk : ∀ t, (E t).length = k) (k0 : 0 < k) (hone : ∀ t, ∀ u ∈ E t, u.oneCell' = true)
    (hsl : Tryz.prog.underlying sl = some (.slice ty)) (hinfo : (Tryz.prog.info? ty).map (fun i => (i.zero, i.size, i.bytes)) = some (some (.agg zs), k, bytes)) (hzs : zs.size = k) (hby : bytes ≤ 100000)
    {W : World} {te : TypeId} {ops : Array Oper} {o : Oper} {a : Act} {K : Act → World → Prop} {Q : Exit → Act → World → Prop} {Ex : Prop} (hgd : o.guard = none) (s x : Operand)
    (ho : o.op = .call { callee := .builtin .append, args := #[s, x], argTypes := #[sl, sl] })
    (base : Nat) (v : Value) (t : List α) (hs : a.eval s = v) (hown : OwnX E k ty W base v t) (y : α) {cs : Array Value} (hcs : cs = (E y).toArray) (b : Nat) (hb : b = W.heap.size) (hx : a.eval x = .slice (some ⟨b, 0, none⟩) 1 1)
    (hlen : t.length + 1 ≤ 100000) (hbase : base ≤ W.heap.size)
    (h : ∀ g cap w', OwnX E k ty w' base (.slice (some ⟨g, 0, none⟩) (t.length + 1) cap) (t ++ [y]) → (W.alloc (.cells cs te)).grownBy w' v.ownBlock → ((Value.slice (some ⟨g, 0, none⟩) (t.length + 1) cap).ownBlock = v.ownBlock ∨ (Value.slice (some ⟨g, 0, none⟩) (t.length + 1) cap).ownBlock = some (W.alloc (.cells cs te)).heap.size) → K (a.put o.dst (.slice (some ⟨g, 0, none⟩) (t.length + 1) cap)) w') :
    if Region.wanted o (yielded ops a.tmps) = true then Oper.wp Tryz.prog o a (W.alloc (.cells cs te)) K Q else Ex := by
  obtain ⟨i0, hi0, hz0, hz1, hz2⟩ := info_parts hinfo
  subst hcs hb
  have hE1 : [y].flatMap E = E y := by simp
  refine step_append_lies _ hgd s x sl ho base ty i0 _ k bytes hsl hi0 hz0 hz1 hz2 (by simpa [Value.cells] using hzs) k0 v t.length (t.flatMap E) hs (hown.grown (newF W _)) ⟨W.heap.size, 0, none⟩ 1 1 (E y) hx (by rw [hk, Nat.one_mul]) (fun j u hu => World.news_of_block (heap_alloc_new W _) j u (by simpa using hu)) (hone y) (by omega) (by unfold maxLen; omega) (by have : (t.length + 1) * bytes ≤ 100000 * 100000 := Nat.mul_le_mul hlen hby; omega) (by simp; omega) _ rfl ?_
  intro g cap w' h1 h2 h3 _
  refine h g cap w' ?_ h2 ?_
  · unfold OwnX
    rw [List.length_append, List.flatMap_append, hE1]; exact h1
  · rcases h3 with e | e
    · exact .inl e.symm
    · right; subst e; rfl

/-- A sort of structs of the call's own. -/
theorem sort_x {E : α → List Value} {k : Nat} {ty : TypeId} {cf : α → α → Int} (hk : ∀ t, (E t).length = k) (k0 : 0 < k) {P : Program} {fs : Nat} {fv : Value} {w : World}
    (hN : ∀ (p : Option Addr) (cap : Nat), Calls P fs #[.slice p 0 cap, fv] w fun e w' => e = .returned (.tuple #[]) ∧ w' = w)
    (hS : ∀ (blk cap : Nat) (d : Array α), HoldsK E k w blk 0 d → blk < w.heap.size → d.size < 4611686018427387904 → Calls P fs #[.slice (some ⟨blk, 0, none⟩) d.size cap, fv] w fun e w' => e = .returned (.tuple #[]) ∧ ∃ d' n os, PermIn 0 d.size d d' ∧ SortedIn (ltOf cf) 0 d.size d' ∧ w' = sortWorldK E k w blk 0 n d' os)
    {base : Nat} {v : Value} {ps : List α} (ho : OwnX E k ty w base v ps) (hl : ps.length ≤ 100000) :
    Calls P fs #[v, fv] w fun e w' => e = .returned (.tuple #[]) ∧ ∃ m, m.Pairwise (fun a b => ltOf cf b a = false) ∧ m.Perm ps ∧ OwnX E k ty w' base v m ∧ w.grownBy w' v.ownBlock := by
  obtain ⟨h1, h2⟩ := id ho
  have self : ∀ e (w' : World), e = Ending.returned (.tuple #[]) ∧ w' = w → ps.length = 0 → e = .returned (.tuple #[]) ∧ ∃ m, m.Pairwise (fun a b => ltOf cf b a = false) ∧ m.Perm ps ∧ OwnX E k ty w' base v m ∧ w.grownBy w' v.ownBlock := by
    rintro e w' ⟨rfl, rfl⟩ h0
    have hps : ps = [] := List.length_eq_zero_iff.1 h0
    subst hps
    exact ⟨rfl, [], List.Pairwise.nil, List.Perm.refl _, ho, rfl, rfl, rfl, Nat.le_refl _, fun _ _ _ => rfl⟩
  rcases h2 with ⟨rfl, h0⟩ | ⟨g, cap, cur, rfl, hb, hc, hnc, hm, hz, ht⟩
  · exact (hN none 0).mono fun e w' h => self e w' h h0
  · by_cases h0 : ps.length = 0
    · rw [h0]
      rw [h0] at self
      exact (hN _ cap).mono fun e w' h => by
        have := self e w' h rfl
        exact this
    · have hH : HoldsK E k w g 0 ps.toArray := by
        unfold HoldsK
        rw [flxK_list hk k0]
        exact holds_of_blockX hc (by rw [h1]; exact ht)
      have hlt : g < w.heap.size := (Array.getElem?_eq_some_iff.1 hc).1
      have := hS g cap ps.toArray hH hlt (by simp; omega)
      rw [List.size_toArray] at this
      refine this.mono ?_
      rintro e w' ⟨rfl, d', q, os, ⟨hz', _, hP⟩, hs, rfl⟩
      have e1 : (d'.extract 0 ps.length).toList = d'.toList := by rw [show ps.length = d'.size by rw [hz']; simp]; simp
      have e2 : (ps.toArray.extract 0 ps.length).toList = ps := by simp
      rw [e1, e2] at hP
      have hml : d'.toList.length = ps.length := hP.length_eq
      have hds : d'.size = ps.length := by simpa using hml
      have ed : flatK E k d' = (d'.toList.flatMap E).toArray := by rw [← flxK_list hk k0 d'.toList]
      refine ⟨rfl, d'.toList, ?_, hP, ⟨by rw [flx_len hk], .inr ⟨g, cap, putCells id 0 (flatK E k d') cur, by rw [hml], hb, ?_, by omega, hm, by simp [putCells, hz], ?_⟩⟩, ?_⟩
      · rw [List.pairwise_iff_getElem]
        intro i j hi hj hij
        have hj' : j < d'.size := by simpa using hj
        have hi' : i < d'.size := by omega
        have := hs i j (Nat.zero_le _) hij (by omega)
        rw [getElem!_pos d' j hj', getElem!_pos d' i hi'] at this
        simpa using this
      · exact heap_sortedX _ hc
      · rw [ed, hml, ← hml, ← flx_len hk d'.toList]
        exact take_putCellsX cur _ (by rw [flx_len hk, hml, hz]; exact Nat.mul_le_mul_right k hnc)
      · exact grownBy_sortedX _

end Go.Proofs.YtgeneoamngfomaaGreatDoor

namespace Go.Proofs.YtgeneoamngfomaaGreatDoor
open Go.RowKit Go.Lib Go.Maps
set_option linter.unusedVariables false
set_option linter.unusedSimpArgs false

def tdL (x : Td) : List Value := [.int .i64 (x.p : Nat), .int .i64 x.day, .int .i64 x.q.num, .int .i64 ((x.q.den : Nat) : Int)]
def flL (x : Flw) : List Value := [.int .i64 x.d, .int .i64 x.c, .int .i64 x.n]
def waL (x : Wat) : List Value := [.bool (decide (x.h = 1)), .int .i64 x.k, .int .i64 x.d]
theorem tdL_one : ∀ x : Td, ∀ u ∈ tdL x, u.oneCell' = true := fun x u hu => by
  unfold tdL at hu; simp at hu; rcases hu with rfl | rfl | rfl | rfl <;> rfl
theorem flL_one : ∀ x : Flw, ∀ u ∈ flL x, u.oneCell' = true := fun x u hu => by
  unfold flL at hu; simp at hu; rcases hu with rfl | rfl | rfl <;> rfl
theorem waL_one : ∀ x : Wat, ∀ u ∈ waL x, u.oneCell' = true := fun x u hu => by
  unfold waL at hu; simp at hu; rcases hu with rfl | rfl | rfl <;> rfl
theorem infoTd : (Tryz.prog.info? 128).map (fun i => (i.zero, i.size, i.bytes)) = some (some (.agg #[.int .i64 0, .int .i64 0, .int .i64 0, .int .i64 0]), 4, 32) := by kernel_rfl
theorem infoFl : (Tryz.prog.info? 50).map (fun i => (i.zero, i.size, i.bytes)) = some (some (.agg #[.int .i64 0, .int .i64 0, .int .i64 0]), 3, 24) := by kernel_rfl
theorem infoWa : (Tryz.prog.info? 46).map (fun i => (i.zero, i.size, i.bytes)) = some (some (.agg #[.bool false, .int .i64 0, .int .i64 0]), 3, 24) := by kernel_rfl

/-- No own block of a value is one of some blocks. -/
def Off (v : Value) (k : Nat) : Prop := v.ownBlock ≠ some k
theorem Off.row {v : Value} {k : Nat} (h : Off v k) : v.ownBlock = none ∨ v.ownBlock ≠ some k := .inr h
theorem Off.next {v v' : Value} {w : World} {k : Nat} (h : Off v k) (hk : k < w.heap.size) (hat : v'.ownBlock = v.ownBlock ∨ v'.ownBlock = some w.heap.size) : Off v' k := fun e => by
  rcases hat with h' | h'
  · exact h (by rw [← h', e])
  · rw [h'] at e; injection e with e; omega
/-- Two slices lie apart. -/
def Aprt (v u : Value) : Prop := ∀ k, v.ownBlock = some k → u.ownBlock ≠ some k
theorem Aprt.ne {v u : Value} (h : Aprt v u) : v.ownBlock = none ∨ v.ownBlock ≠ u.ownBlock := by
  cases e : v.ownBlock with
  | none => exact .inl rfl
  | some k => exact .inr (fun e2 => h k e e2.symm)
theorem Aprt.symm {v u : Value} (h : Aprt v u) : Aprt u v := fun k h1 h2 => h k h2 h1
theorem Aprt.next {v u u' : Value} {w : World} (h : Aprt v u) (hl : ∀ k, v.ownBlock = some k → k < w.heap.size) (hat : u'.ownBlock = u.ownBlock ∨ u'.ownBlock = some w.heap.size) : Aprt v u' := fun k h1 h2 => by
  rcases hat with h' | h'
  · exact h k h1 (by rw [← h', h2])
  · rw [h'] at h2; injection h2 with h2; have := hl k h1; omega
theorem grownBy_set (w : World) (b i : Nat) (v : Value) : w.grownBy (w.setCell ⟨b, i, none⟩ v) (some b) :=
  ⟨rfl, rfl, rfl, by simp [World.setCell], fun k _ hk => Below.heap_setCell _ _ _ _ (fun e => hk (by simp [e]))⟩
/-- The reading in memory. -/
structure RdR (w0 w : World) (R Z Q : Nat) (tv : Value) (tu : Int) (B : Nat) (qv fv wv : Value) (td : List Td) (fl : List Flw) (ws : List Wat) : Prop where
  r0 : w.cell? ⟨R, 0, none⟩ = some tv
  r1 : w.cell? ⟨R, 1, none⟩ = some (.int .i64 tu)
  r2 : w.cell? ⟨R, 2, none⟩ = some (.pointer (some ⟨B, 0, none⟩))
  r3 : w.cell? ⟨R, 3, none⟩ = some fv
  r4 : w.cell? ⟨R, 4, none⟩ = some wv
  z : w.cell? ⟨Z, 0, none⟩ = some (.int .i64 tu)
  q : w.cell? ⟨Q, 0, none⟩ = some qv
  fr : ∀ i, w.frozen? ⟨R, i, none⟩ = false
  fq : w.frozen? ⟨Q, 0, none⟩ = false
  oq : OwnX tdL 4 128 w w0.heap.size qv td
  of : OwnX flL 3 50 w w0.heap.size fv fl
  ow : OwnX waL 3 46 w w0.heap.size wv ws
  aqf : Aprt qv fv
  aqw : Aprt qv wv
  afw : Aprt fv wv
  qR : Off qv R
  qZ : Off qv Z
  qQ : Off qv Q
  fR : Off fv R
  fZ : Off fv Z
  fQ : Off fv Q
  wR : Off wv R
  wZ : Off wv Z
  wQ : Off wv Q
  nRZ : R ≠ Z
  nRQ : R ≠ Q
  nZQ : Z ≠ Q
  bR : w0.heap.size ≤ R
  bQ : w0.heap.size ≤ Q
  bel : Below w0.heap.size w0 w
section
variable {w0 w : World} {R Z Q : Nat} {tv : Value} {tu : Int} {B : Nat} {qv fv wv : Value} {td : List Td} {fl : List Flw} {ws : List Wat}
theorem RdR.ltR (h : RdR w0 w R Z Q tv tu B qv fv wv td fl ws) : R < w.heap.size := ltF h.r0
theorem RdR.ltZ (h : RdR w0 w R Z Q tv tu B qv fv wv td fl ws) : Z < w.heap.size := ltF h.z
theorem RdR.ltQ (h : RdR w0 w R Z Q tv tu B qv fv wv td fl ws) : Q < w.heap.size := ltF h.q
theorem RdR.keep (h : RdR w0 w R Z Q tv tu B qv fv wv td fl ws) {w' : World} (hb : Below w.heap.size w w') : RdR w0 w' R Z Q tv tu B qv fv wv td fl ws :=
  ⟨keepF hb h.r0, keepF hb h.r1, keepF hb h.r2, keepF hb h.r3, keepF hb h.r4, keepF hb h.z, keepF hb h.q, fun i => (hb.frozen (p := ⟨R, i, none⟩) h.ltR).trans (h.fr i), (hb.frozen (p := ⟨Q, 0, none⟩) h.ltQ).trans h.fq,
    h.oq.grown hb, h.of.grown hb, h.ow.grown hb, h.aqf, h.aqw, h.afw, h.qR, h.qZ, h.qQ, h.fR, h.fZ, h.fQ, h.wR, h.wZ, h.wQ, h.nRZ, h.nRQ, h.nZQ, h.bR, h.bQ, h.bel.trans (hb.mono h.bel.size)⟩
theorem cellB {w' : World} {row : Option Nat} (hg : w.grownBy w' row) {b i : Nat} {v : Value} (h : w.cell? ⟨b, i, none⟩ = some v) (hne : row ≠ some b) : w'.cell? ⟨b, i, none⟩ = some v := (World.cell?_of_block (hg.block b (ltF h) (fun e => hne e.symm))).trans h
theorem frozB {w' : World} {row : Option Nat} (hg : w.grownBy w' row) {b i : Nat} (hb : b < w.heap.size) (hne : row ≠ some b) : w'.frozen? ⟨b, i, none⟩ = w.frozen? ⟨b, i, none⟩ := World.frozen?_of_block (a := ⟨b, i, none⟩) (hg.block b hb (fun e => hne e.symm))
theorem setB {b i c j : Nat} {v u : Value} (h : w.cell? ⟨c, j, none⟩ = some u) (hne : b ≠ c ∨ i ≠ j) : (w.setCell ⟨b, i, none⟩ v).cell? ⟨c, j, none⟩ = some u := by
  rw [cell_other (fun e => by injection e with e1 e2; rcases hne with h | h <;> exact h (by assumption))]; exact h
/-- Something tu do is put. -/
theorem RdR.putQ (h : RdR w0 w R Z Q tv tu B qv fv wv td fl ws) {w' : World} {qv' : Value} {td' : List Td} (hg : w.grownBy w' qv.ownBlock) (ho : OwnX tdL 4 128 w' w0.heap.size qv' td') (hat : qv'.ownBlock = qv.ownBlock ∨ qv'.ownBlock = some w.heap.size) :
    RdR w0 (w'.setCell ⟨Q, 0, none⟩ qv') R Z Q tv tu B qv' fv wv td' fl ws := by
  have hs := grownBy_set w' Q 0 qv'
  have qR' := h.qR.next h.ltR hat
  have qZ' := h.qZ.next h.ltZ hat
  have qQ' := h.qQ.next h.ltQ hat
  have nr := h.nRQ.symm
  have nz := h.nZQ.symm
  refine ⟨setB (cellB hg h.r0 h.qR) (.inl nr), setB (cellB hg h.r1 h.qR) (.inl nr), setB (cellB hg h.r2 h.qR) (.inl nr), setB (cellB hg h.r3 h.qR) (.inl nr), setB (cellB hg h.r4 h.qR) (.inl nr), setB (cellB hg h.z h.qZ) (.inl nz), cell_same (cellB hg h.q h.qQ), fun i => ?_, ?_,
    ho.kept hs qQ'.row, (h.of.kept hg h.aqf.symm.ne).kept hs h.fQ.row, (h.ow.kept hg h.aqw.symm.ne).kept hs h.wQ.row, (h.aqf.symm.next (fun k hk => (h.of.lt k hk).2) hat).symm, (h.aqw.symm.next (fun k hk => (h.ow.lt k hk).2) hat).symm, h.afw, qR', qZ', qQ', h.fR, h.fZ, h.fQ, h.wR, h.wZ, h.wQ, h.nRZ, h.nRQ, h.nZQ, h.bR, h.bQ, ?_⟩
  · rw [World.frozen?_setCell, frozB hg h.ltR h.qR]; exact h.fr i
  · rw [World.frozen?_setCell, frozB hg h.ltQ h.qQ]; exact h.fq
  · exact Below.setCell (h.bel.grown hg h.bel.size (fun k hk => (h.oq.lt k hk).1)) h.bQ _
/-- A flow is put. -/
theorem RdR.putF (h : RdR w0 w R Z Q tv tu B qv fv wv td fl ws) {w' : World} {fv' : Value} {fl' : List Flw} (hg : w.grownBy w' fv.ownBlock) (ho : OwnX flL 3 50 w' w0.heap.size fv' fl') (hat : fv'.ownBlock = fv.ownBlock ∨ fv'.ownBlock = some w.heap.size) :
    RdR w0 (w'.setCell ⟨R, 3, none⟩ fv') R Z Q tv tu B qv fv' wv td fl' ws := by
  have hs := grownBy_set w' R 3 fv'
  have fR' := h.fR.next h.ltR hat
  have fZ' := h.fZ.next h.ltZ hat
  have fQ' := h.fQ.next h.ltQ hat
  refine ⟨setB (cellB hg h.r0 h.fR) (.inr (by decide)), setB (cellB hg h.r1 h.fR) (.inr (by decide)), setB (cellB hg h.r2 h.fR) (.inr (by decide)), cell_same (cellB hg h.r3 h.fR), setB (cellB hg h.r4 h.fR) (.inr (by decide)), setB (cellB hg h.z h.fZ) (.inl h.nRZ), setB (cellB hg h.q h.fQ) (.inl h.nRQ), fun i => ?_, ?_,
    (h.oq.kept hg h.aqf.ne).kept hs h.qR.row, ho.kept hs fR'.row, (h.ow.kept hg h.afw.symm.ne).kept hs h.wR.row, h.aqf.next (fun k hk => (h.oq.lt k hk).2) hat, h.aqw, (h.afw.symm.next (fun k hk => (h.ow.lt k hk).2) hat).symm, h.qR, h.qZ, h.qQ, fR', fZ', fQ', h.wR, h.wZ, h.wQ, h.nRZ, h.nRQ, h.nZQ, h.bR, h.bQ, ?_⟩
  · rw [World.frozen?_setCell, frozB hg h.ltR h.fR]; exact h.fr i
  · rw [World.frozen?_setCell, frozB hg h.ltQ h.fQ]; exact h.fq
  · exact Below.setCell (h.bel.grown hg h.bel.size (fun k hk => (h.of.lt k hk).1)) h.bR _
/-- A wait is put. -/
theorem RdR.putW (h : RdR w0 w R Z Q tv tu B qv fv wv td fl ws) {w' : World} {wv' : Value} {ws' : List Wat} (hg : w.grownBy w' wv.ownBlock) (ho : OwnX waL 3 46 w' w0.heap.size wv' ws') (hat : wv'.ownBlock = wv.ownBlock ∨ wv'.ownBlock = some w.heap.size) :
    RdR w0 (w'.setCell ⟨R, 4, none⟩ wv') R Z Q tv tu B qv fv wv' td fl ws' := by
  have hs := grownBy_set w' R 4 wv'
  have wR' := h.wR.next h.ltR hat
  have wZ' := h.wZ.next h.ltZ hat
  have wQ' := h.wQ.next h.ltQ hat
  refine ⟨setB (cellB hg h.r0 h.wR) (.inr (by decide)), setB (cellB hg h.r1 h.wR) (.inr (by decide)), setB (cellB hg h.r2 h.wR) (.inr (by decide)), setB (cellB hg h.r3 h.wR) (.inr (by decide)), cell_same (cellB hg h.r4 h.wR), setB (cellB hg h.z h.wZ) (.inl h.nRZ), setB (cellB hg h.q h.wQ) (.inl h.nRQ), fun i => ?_, ?_,
    (h.oq.kept hg h.aqw.ne).kept hs h.qR.row, (h.of.kept hg h.afw.ne).kept hs h.fR.row, ho.kept hs wR'.row, h.aqf, h.aqw.next (fun k hk => (h.oq.lt k hk).2) hat, h.afw.next (fun k hk => (h.of.lt k hk).2) hat, h.qR, h.qZ, h.qQ, h.fR, h.fZ, h.fQ, wR', wZ', wQ', h.nRZ, h.nRQ, h.nZQ, h.bR, h.bQ, ?_⟩
  · rw [World.frozen?_setCell, frozB hg h.ltR h.wR]; exact h.fr i
  · rw [World.frozen?_setCell, frozB hg h.ltQ h.wQ]; exact h.fq
  · exact Below.setCell (h.bel.grown hg h.bel.size (fun k hk => (h.ow.lt k hk).1)) h.bR _
end
/-- What acquiring leaves alone. -/
def Lets (Q : Nat) (qv : Value) (w w' : World) : Prop := ∀ k, k < w.heap.size → k ≠ Q → Off qv k → w'.heap[k]? = w.heap[k]?
theorem Lets.cell {Q : Nat} {qv : Value} {w w' : World} (h : Lets Q qv w w') {b i : Nat} {v : Value} (hc : w.cell? ⟨b, i, none⟩ = some v) (h1 : b ≠ Q) (h2 : Off qv b) : w'.cell? ⟨b, i, none⟩ = some v := (World.cell?_of_block (h b (ltF hc) h1 h2)).trans hc
theorem lets_put {Q : Nat} {qv v' : Value} {w w1 w2 w5 : World} (h1 : Below w.heap.size w w1) (h2 : Below w1.heap.size w1 w2) (hg : w2.grownBy w5 qv.ownBlock) : Lets Q qv w (w5.setCell ⟨Q, 0, none⟩ v') := fun k hk k1 k2 => by
  have l1 := Nat.lt_of_lt_of_le hk h1.size
  have l2 := Nat.lt_of_lt_of_le l1 h2.size
  have l3 := Nat.lt_of_lt_of_le l2 hg.size
  exact ((grownBy_set w5 Q 0 v').block k l3 (fun e => k1 (by injection e))).trans ((hg.block k l2 (fun e => k2 e.symm)).trans ((h2.block k l1).trans (h1.block k hk)))
/-- What is acquired: only what is no later than the last day. -/
def acqL (tu : Int) (x : Td) : List Td := if x.day ≤ tu then [x] else []
def AcqR (w0 w : World) (R Z Q : Nat) (tv : Value) (tu : Int) (B : Nat) (qv fv wv : Value) (td : List Td) (fl : List Flw) (ws : List Wat) (w' : World) : Prop := ∃ qv', RdR w0 w' R Z Q tv tu B qv' fv wv td fl ws ∧ Lets Q qv w w' ∧ ∀ k, k < w.heap.size → Off qv k → Off qv' k
def AcqV (Z Q : Nat) : Value := .func (.func 50) #[] #[.pointer (some ⟨Z, 0, none⟩), .pointer (some ⟨Q, 0, none⟩)]
set_option maxRecDepth 100000 in
theorem acq_any {w0 w : World} {R Z Q : Nat} {tv : Value} {tu : Int} {B : Nat} {qv fv wv : Value} {td : List Td} {fl : List Flw} {ws : List Wat} (h : RdR w0 w R Z Q tv tu B qv fv wv td fl ws) (hl : td.length ≤ 1000) (x : Td) (p n d : Int) (ep : p = (x.p : Nat)) (en : n = x.q.num) (ed : d = ((x.q.den : Nat) : Int)) (day : Int) (ey : day = x.day) :
    Calls Tryz.prog 50 #[.agg #[.int .i64 p, .int .i64 day, .int .i64 n, .int .i64 d], .pointer (some ⟨Z, 0, none⟩), .pointer (some ⟨Q, 0, none⟩)] w fun e w' => e = .returned (.tuple #[]) ∧ AcqR w0 w R Z Q tv tu B qv fv wv (td ++ acqL tu x) fl ws w' := by
  have hx := h.keep (newF w (.cells #[.int .i64 p, .int .i64 day, .int .i64 n, .int .i64 d] 128))
  have zc := hx.z
  have qc := hx.q
  have fq := hx.fq
  have x0 : (w.alloc (.cells #[.int .i64 p, .int .i64 day, .int .i64 n, .int .i64 d] 128)).cell? ⟨w.heap.size, 0, none⟩ = some (.int .i64 p) := by rw [World.cell?_alloc_at _ _ _ _ rfl]; rfl
  have x1 : (w.alloc (.cells #[.int .i64 p, .int .i64 day, .int .i64 n, .int .i64 d] 128)).cell? ⟨w.heap.size, 1, none⟩ = some (.int .i64 day) := by rw [World.cell?_alloc_at _ _ _ _ rfl]; rfl
  have x2 : (w.alloc (.cells #[.int .i64 p, .int .i64 day, .int .i64 n, .int .i64 d] 128)).cell? ⟨w.heap.size, 2, none⟩ = some (.int .i64 n) := by rw [World.cell?_alloc_at _ _ _ _ rfl]; rfl
  have x3 : (w.alloc (.cells #[.int .i64 p, .int .i64 day, .int .i64 n, .int .i64 d] 128)).cell? ⟨w.heap.size, 3, none⟩ = some (.int .i64 d) := by rw [World.cell?_alloc_at _ _ _ _ rfl]; rfl
  have HX := Lib.hid hx
  have HN := Lib.hid (newF w (.cells #[.int .i64 p, .int .i64 day, .int .i64 n, .int .i64 d] 128))
  have HL : Hid (w.heap.size < (w.alloc (.cells #[.int .i64 p, .int .i64 day, .int .i64 n, .int .i64 d] 128)).heap.size) := Lib.hid (by simp)
  have HE : Hid (tdL x = [.int .i64 p, .int .i64 day, .int .i64 n, .int .i64 d]) := Lib.hid (by unfold tdL; rw [ep, en, ed, ey])
  have HY := Lib.hid ey
  obtain ⟨sa, sc, rfl⟩ := hx.oq.slice
  clear h hx ep en ed ey
  unfold acqL
  rw [← HY.out]
  by_cases hd : day ≤ tu
  · rw [if_pos hd]
    go_enter Tryz.func50, Tryz.ntmps50
    go_upto_region 2 with fail
    generalize w.alloc (.cells #[.int .i64 p, .int .i64 day, .int .i64 n, .int .i64 d] 128) = w1 at *
    go_wp2_with (at_builtin; refine wpList_append_x (E := tdL) (k := 4) (fun _ => rfl) (by decide) tdL_one Tryz.underlying126 infoTd rfl (by decide) rfl _ _ rfl w0.heap.size _ td rfl (HX.out.oq.grown (newF w1 _)) _ [x] rfl (rowx_new (E := tdL) (k := 4) (fun _ => rfl) w1 x #[.int .i64 p, .int .i64 day, .int .i64 n, .int .i64 d] (by rw [HE.out]) 128 _ rfl) (by simp; omega) (by have := HX.out.bel.size; simp; omega) ?_; intro v' w5 hown' hgrow hat; have HLt : Hid (Lets Q (.slice sa td.length sc) w (w5.setCell ⟨Q, 0, none⟩ v')) := Lib.hid (lets_put HN.out (newF w1 _) hgrow); have HOf : Hid (∀ k, k < w.heap.size → Off (.slice sa td.length sc) k → Off v' k) := Lib.hid (fun k hk h0 => h0.next (Nat.lt_of_lt_of_le hk (Nat.le_trans HN.out.size (newF w1 _).size)) hat); have HP := Lib.hid ((HX.out.keep (newF w1 (.cells #[.int .i64 p, .int .i64 day, .int .i64 n, .int .i64 d] 128))).putQ hgrow hown' hat); have qc5 := cellB hgrow ((HX.out.keep (newF w1 (.cells #[.int .i64 p, .int .i64 day, .int .i64 n, .int .i64 d] 128))).q) HX.out.qQ; have fq5 := (frozB (i := 0) hgrow ((HX.out.keep (newF w1 (.cells #[.int .i64 p, .int .i64 day, .int .i64 n, .int .i64 d] 128))).ltQ) HX.out.qQ).trans (HX.out.keep (newF w1 (.cells #[.int .i64 p, .int .i64 day, .int .i64 n, .int .i64 d] 128))).fq; obtain ⟨sb, sd, rfl⟩ := hown'.slice; rw [show (td ++ [x]).length = td.length + 1 by simp] at HP HLt HOf; clear hown' hgrow hat)
    go_wp2_with fail
    go_end0
    exact ⟨rfl, _, HP.out, HLt.out, HOf.out⟩
  · rw [if_neg hd, List.append_nil]
    go_enter Tryz.func50, Tryz.ntmps50
    go_wp2_with fail
    go_end0
    exact ⟨rfl, _, HX.out, fun k hk _ _ => HN.out.block k hk, fun _ _ h => h⟩

set_option maxRecDepth 100000 in
theorem instead_any (w : World) (a b c d i : Int) : Calls Tryz.prog 82 #[.agg #[.int .i64 a, .int .i64 b, .int .i64 c, .int .i64 d], .int .i64 i] w fun e w' => e = .returned (.agg #[.int .i64 i, .int .i64 b, .int .i64 c, .int .i64 d]) ∧ Below w.heap.size w w' := by
  have hb := onF (newF w (.cells #[.int .i64 a, .int .i64 b, .int .i64 c, .int .i64 d] 128)) (newF (w.alloc (.cells #[.int .i64 a, .int .i64 b, .int .i64 c, .int .i64 d] 128)) (.cells #[.int .i64 0, .int .i64 0, .int .i64 0, .int .i64 0] 128))
  have x0 : ((w.alloc (.cells #[.int .i64 a, .int .i64 b, .int .i64 c, .int .i64 d] 128)).alloc (.cells #[.int .i64 0, .int .i64 0, .int .i64 0, .int .i64 0] 128)).cell? ⟨w.heap.size, 1, none⟩ = some (.int .i64 b) := keepF (newF _ _) (by rw [World.cell?_alloc_at _ _ _ _ rfl]; rfl)
  have x1 : ((w.alloc (.cells #[.int .i64 a, .int .i64 b, .int .i64 c, .int .i64 d] 128)).alloc (.cells #[.int .i64 0, .int .i64 0, .int .i64 0, .int .i64 0] 128)).cell? ⟨w.heap.size, 2, none⟩ = some (.int .i64 c) := keepF (newF _ _) (by rw [World.cell?_alloc_at _ _ _ _ rfl]; rfl)
  have x2 : ((w.alloc (.cells #[.int .i64 a, .int .i64 b, .int .i64 c, .int .i64 d] 128)).alloc (.cells #[.int .i64 0, .int .i64 0, .int .i64 0, .int .i64 0] 128)).cell? ⟨w.heap.size, 3, none⟩ = some (.int .i64 d) := keepF (newF _ _) (by rw [World.cell?_alloc_at _ _ _ _ rfl]; rfl)
  have y : ∀ k v, (#[.int .i64 0, .int .i64 0, .int .i64 0, .int .i64 0] : Array Value)[k]? = some v → ((w.alloc (.cells #[.int .i64 a, .int .i64 b, .int .i64 c, .int .i64 d] 128)).alloc (.cells #[.int .i64 0, .int .i64 0, .int .i64 0, .int .i64 0] 128)).cell? ⟨w.heap.size + 1, k, none⟩ = some v := fun k v h => by rw [World.cell?_alloc_at _ _ _ _ (by simp)]; exact h
  have y0 := y 0 _ rfl
  have y1 := y 1 _ rfl
  have y2 := y 2 _ rfl
  have y3 := y 3 _ rfl
  have z : ∀ k, ((w.alloc (.cells #[.int .i64 a, .int .i64 b, .int .i64 c, .int .i64 d] 128)).alloc (.cells #[.int .i64 0, .int .i64 0, .int .i64 0, .int .i64 0] 128)).frozen? ⟨w.heap.size + 1, k, none⟩ = false := fun k => World.frozen?_alloc_at _ _ _ _ (by simp)
  have z0 := z 0
  have z1 := z 1
  have z2 := z 2
  have z3 := z 3
  have HB := Lib.hid hb
  clear y z hb
  go_enter Tryz.func82, Tryz.ntmps82
  go_upto_region 1 with fail
  generalize (w.alloc (.cells #[.int .i64 a, .int .i64 b, .int .i64 c, .int .i64 d] 128)).alloc (.cells #[.int .i64 0, .int .i64 0, .int .i64 0, .int .i64 0] 128) = w2 at *
  go_wp2_with fail
  refine bodyPost_ret (v := .agg #[.int .i64 i, .int .i64 b, .int .i64 c, .int .i64 d]) (by simp [results, Tryz.results82, go_sem, y0, y1, y2, y3]) rfl ⟨rfl, ?_⟩
  have hq : w.heap.size ≤ w.heap.size + 1 := by omega
  exact Below.setCell (Below.setCell (Below.setCell (Below.setCell HB.out hq _) hq _) hq _) hq _

end Go.Proofs.YtgeneoamngfomaaGreatDoor

namespace Go.Proofs.YtgeneoamngfomaaGreatDoor
open Go.RowKit Go.Lib Go.Maps
set_option linter.unusedVariables false
set_option linter.unusedSimpArgs false

/-- The reading in memory, wherever its slices lie. -/
def DnM (w0 w : World) (R Z Q : Nat) (tv : Value) (tu : Int) (B : Nat) (td : List Td) (fl : List Flw) (ws : List Wat) : Prop := ∃ qv fv wv, RdR w0 w R Z Q tv tu B qv fv wv td fl ws
theorem okQ {q : Rat} (h : fitsR q = true) : OkR q.num ((q.den : Nat) : Int) := okR_of h
theorem chkQ {q : Rat} (h : fitsR q = true) : chkE q.num ((q.den : Nat) : Int) = 0 := chkE_ok (okQ h)
theorem limQ {q : Rat} (h : fitsR q = true) : -9223372036854775808 ≤ q.num ∧ q.num ≤ 9223372036854775807 ∧ -9223372036854775808 ≤ ((q.den : Nat) : Int) ∧ ((q.den : Nat) : Int) ≤ 9223372036854775807 := by
  have := okQ h
  exact ⟨by have := this.n0; omega, this.n1, by have := this.d0; omega, this.d1⟩
set_option maxRecDepth 100000 in
theorem pay_any {w0 w : World} {R Z Q : Nat} {tv : Value} {tu : Int} {B : Nat} {qv fv wv : Value} {td : List Td} {fl : List Flw} {ws : List Wat} (h : RdR w0 w R Z Q tv tu B qv fv wv td fl ws) (hl : fl.length ≤ 1000) (x : Td) (hq : fitsR x.q = true) (p : Int) (cur : Int) :
    Calls Tryz.prog 80 #[.pointer (some ⟨R, 0, none⟩), .agg #[.int .i64 p, .int .i64 x.day, .int .i64 x.q.num, .int .i64 ((x.q.den : Nat) : Int)], .int .i64 cur] w fun e w' => e = .returned (.int .i64 0) ∧ DnM w0 w' R Z Q tv tu B td (fl ++ if rnd x.q = 0 then [] else [⟨x.day, cur, rnd x.q⟩]) ws := by
  obtain ⟨l1, l2, l3, l4⟩ := limQ hq
  have HRo := Lib.hid (fun (w' : World) => round_any x.q.num ((x.q.den : Nat) : Int) w' l1 l2 l3 l4)
  rw [chkQ hq, if_pos rfl] at HRo
  change Hid (∀ w', Calls Tryz.prog 117 #[.agg #[.int .i64 x.q.num, .int .i64 ((x.q.den : Nat) : Int)]] w' fun e w'' => e = .returned (.tuple #[.int .i64 (rnd x.q), .int .i64 0]) ∧ Below w'.heap.size w' w'') at HRo
  generalize ((x.q.den : Nat) : Int) = d at *
  generalize x.q.num = n at *
  generalize rnd x.q = m at *
  generalize x.day = day at *
  have hb := newF w (.cells #[.int .i64 p, .int .i64 day, .int .i64 n, .int .i64 d] 128)
  have hx := h.keep hb
  have x1 : (w.alloc (.cells #[.int .i64 p, .int .i64 day, .int .i64 n, .int .i64 d] 128)).cell? ⟨w.heap.size, 1, none⟩ = some (.int .i64 day) := by rw [World.cell?_alloc_at _ _ _ _ rfl]; rfl
  have x2 : (w.alloc (.cells #[.int .i64 p, .int .i64 day, .int .i64 n, .int .i64 d] 128)).cell? ⟨w.heap.size, 2, none⟩ = some (.int .i64 n) := by rw [World.cell?_alloc_at _ _ _ _ rfl]; rfl
  have x3 : (w.alloc (.cells #[.int .i64 p, .int .i64 day, .int .i64 n, .int .i64 d] 128)).cell? ⟨w.heap.size, 3, none⟩ = some (.int .i64 d) := by rw [World.cell?_alloc_at _ _ _ _ rfl]; rfl
  have HX := Lib.hid hx
  have HX1 := Lib.hid x1
  obtain ⟨sa, sc, rfl⟩ := hx.of.slice
  clear h hx hb hq l1 l2 l3 l4 x1
  by_cases hm : m = 0
  · subst hm
    rw [if_pos rfl, List.append_nil]
    go_enter Tryz.func80, Tryz.ntmps80
    go_upto_region 1 with fail
    generalize w.alloc (.cells #[.int .i64 p, .int .i64 day, .int .i64 n, .int .i64 d] 128) = w1 at *
    go_wp2_with fail
    refine (HRo.out _).mono ?_
    rintro e w2 ⟨rfl, hb2⟩
    have HX2 := Lib.hid (HX.out.keep hb2)
    clear hb2 x2 x3 HRo
    go_wp2_with fail
    go_ret
    exact ⟨rfl, _, _, _, HX2.out⟩
  · rw [if_neg hm]
    have hm1 : (m != 0) = true := bne_iff_ne.2 hm
    have hm2 : (m == 0) = false := beq_false_of_ne hm
    clear hm
    go_enter Tryz.func80, Tryz.ntmps80
    go_upto_region 1 with fail
    generalize w.alloc (.cells #[.int .i64 p, .int .i64 day, .int .i64 n, .int .i64 d] 128) = w1 at *
    go_wp2_with fail
    refine (HRo.out _).mono ?_
    rintro e w2 ⟨rfl, hb2⟩
    have HX2 := Lib.hid (HX.out.keep hb2)
    have x1 := keepF hb2 HX1.out
    have r3 := HX2.out.r3
    clear hb2 x2 x3 HRo
    have HW := Lib.hid (HX2.out.keep (Below.drew (Below.refl _ _)))
    have HV := Lib.hid (HW.out.keep (newF w2.drew (.cells #[.int .i64 day, .int .i64 cur, .int .i64 m] 50)))
    have r3a := fun o => keepF (newF w2 o) r3
    have x1a := fun o => keepF (newF w2 o) x1
    go_upto_region 5 with fail
    go_region_law
      ((refine step_append_x (E := flL) (k := 3) (fun _ => rfl) (by decide) flL_one Tryz.underlying30 infoFl rfl (by decide) (by rfl) _ _ (by rfl) w0.heap.size _ fl (by rfl) HW.out.of ⟨day, cur, m⟩ (by rfl) _ rfl (by rfl) (by omega) HW.out.bel.size ?_
        intro g cap2 w5 hown1 hgrow hat
        have HP := Lib.hid (HV.out.putF hgrow hown1 hat)
        have s1 := cellB hgrow HV.out.r3 HV.out.fR
        have e2 := (frozB (i := 3) hgrow HV.out.ltR HV.out.fR).trans (HV.out.fr 3)
        clear hown1 hgrow hat))
    all_goals
      go_wp2_with fail
      go_ret
      exact ⟨rfl, _, _, _, HP.out⟩

set_option maxRecDepth 100000 in
theorem give_any {w0 w : World} {R Z Q : Nat} {tv : Value} {tu : Int} {B : Nat} {qv fv wv : Value} {td : List Td} {fl : List Flw} {ws : List Wat} (h : RdR w0 w R Z Q tv tu B qv fv wv td fl ws) (hl : td.length ≤ 1000) (x : Td) (hq : fitsR x.q = true) (p : Int) (g k : Nat) (cap : Nat) (hgQ : g ≠ Q) (hgo : Off qv g) (hk : w.cell? ⟨g, 0, none⟩ = some (.int .i64 (k : Nat))) :
    Calls Tryz.prog 81 #[.agg #[.int .i64 p, .int .i64 x.day, .int .i64 x.q.num, .int .i64 ((x.q.den : Nat) : Int)], .slice (some ⟨g, 0, none⟩) 1 cap, AcqV Z Q] w fun e w' => e = .returned (.int .i64 0) ∧ DnM w0 w' R Z Q tv tu B (td ++ acqL tu ⟨k, x.day, -x.q⟩) fl ws := by
  obtain ⟨l1, l2, l3, l4⟩ := limQ hq
  have HNg := Lib.hid (fun (w' : World) => negr_any x.q.num ((x.q.den : Nat) : Int) w' l1 l2 l3 l4)
  rw [chkQ hq, if_pos rfl, if_pos rfl] at HNg
  have HAc := Lib.hid (fun (w' : World) (h' : RdR w0 w' R Z Q tv tu B qv fv wv td fl ws) => acq_any h' hl ⟨k, x.day, -x.q⟩ (k : Nat) (-x.q.num) ((x.q.den : Nat) : Int) rfl (Rat.neg_num _).symm (by rw [Rat.neg_den]) x.day rfl)
  generalize ((x.q.den : Nat) : Int) = d at *
  generalize x.q.num = n at *
  generalize acqL tu ⟨k, x.day, -x.q⟩ = al at *
  generalize x.day = day at *
  have hb := newF w (.cells #[.int .i64 p, .int .i64 day, .int .i64 n, .int .i64 d] 128)
  have HB1 := Lib.hid hb
  have HX := Lib.hid (h.keep hb)
  have HK := Lib.hid (keepF hb hk)
  have x1 : (w.alloc (.cells #[.int .i64 p, .int .i64 day, .int .i64 n, .int .i64 d] 128)).cell? ⟨w.heap.size, 1, none⟩ = some (.int .i64 day) := by rw [World.cell?_alloc_at _ _ _ _ rfl]; rfl
  have x2 : (w.alloc (.cells #[.int .i64 p, .int .i64 day, .int .i64 n, .int .i64 d] 128)).cell? ⟨w.heap.size, 2, none⟩ = some (.int .i64 n) := by rw [World.cell?_alloc_at _ _ _ _ rfl]; rfl
  have x3 : (w.alloc (.cells #[.int .i64 p, .int .i64 day, .int .i64 n, .int .i64 d] 128)).cell? ⟨w.heap.size, 3, none⟩ = some (.int .i64 d) := by rw [World.cell?_alloc_at _ _ _ _ rfl]; rfl
  have HX1 := Lib.hid x1
  have HG := Lib.hid (And.intro hgQ hgo)
  have HO := Lib.hid (fun (k : Nat) (hk : w.heap.size ≤ k) => (show k ≠ Q ∧ Off qv k from ⟨by have := h.ltQ; omega, fun e => by have := (h.oq.lt k e).2; omega⟩))
  clear h hb hq l1 l2 l3 l4 x1 hk hgQ hgo
  unfold AcqV
  go_enter Tryz.func81, Tryz.ntmps81
  go_upto_region 1 with fail
  generalize w.alloc (.cells #[.int .i64 p, .int .i64 day, .int .i64 n, .int .i64 d] 128) = w1 at *
  go_wp2_with fail
  refine (HNg.out _).mono ?_
  rintro e w2 ⟨rfl, hb2⟩
  have hb3 := onF hb2 (newF w2 (.cells #[.int .i64 (-n), .int .i64 d] 58))
  have HX2 := Lib.hid (HX.out.keep hb3)
  have x1 := keepF hb3 HX1.out
  have k0 := keepF hb3 HK.out
  have v0 : (w2.alloc (.cells #[.int .i64 (-n), .int .i64 d] 58)).cell? ⟨w2.heap.size, 0, none⟩ = some (.int .i64 (-n)) := by rw [World.cell?_alloc_at _ _ _ _ rfl]; rfl
  have v1 : (w2.alloc (.cells #[.int .i64 (-n), .int .i64 d] 58)).cell? ⟨w2.heap.size, 1, none⟩ = some (.int .i64 d) := by rw [World.cell?_alloc_at _ _ _ _ rfl]; rfl
  have HZ : Hid (w.heap.size ≤ w2.heap.size) := Lib.hid (Nat.le_trans HB1.out.size hb2.size)
  clear hb2 hb3 x2 x3 HNg
  go_upto_region 4 with fail
  generalize w2.alloc (.cells #[.int .i64 (-n), .int .i64 d] 58) = w3 at *
  have k0 : w3.drew.cell? ⟨g, 0, none⟩ = some (.int .i64 (k : Nat)) := k0
  have x1 : w3.drew.cell? ⟨w.heap.size, 1, none⟩ = some (.int .i64 day) := x1
  have v0 : w3.drew.cell? ⟨w2.heap.size, 0, none⟩ = some (.int .i64 (-n)) := v0
  have v1 : w3.drew.cell? ⟨w2.heap.size, 1, none⟩ = some (.int .i64 d) := v1
  have HA3 := Lib.hid (HAc.out _ (HX2.out.keep (Below.drew (Below.refl _ _))))
  go_region_held3 (fun w' => w'.cell? ⟨g, 0, none⟩ = some (.int .i64 (k : Nat)) ∧ w'.cell? ⟨w.heap.size, 1, none⟩ = some (.int .i64 day) ∧ w'.cell? ⟨w2.heap.size, 0, none⟩ = some (.int .i64 (-n)) ∧ w'.cell? ⟨w2.heap.size, 1, none⟩ = some (.int .i64 d))
    (first | (with_reducible exact ⟨k0, x1, v0, v1⟩))
    ((go_at_call 50; refine (HA3.out).mono ?_; rintro e w4 ⟨rfl, qv', hr, hlet, _⟩; have HR4 := Lib.hid hr; have k0 := hlet.cell k0 HG.out.1 HG.out.2; have x1 := hlet.cell x1 (HO.out _ (Nat.le_refl _)).1 (HO.out _ (Nat.le_refl _)).2; have v0 := hlet.cell v0 (HO.out _ HZ.out).1 (HO.out _ HZ.out).2; have v1 := hlet.cell v1 (HO.out _ HZ.out).1 (HO.out _ HZ.out).2; clear hr hlet))
  go_wp2_with fail
  go_ret
  exact ⟨rfl, _, _, _, HR4.out⟩

end Go.Proofs.YtgeneoamngfomaaGreatDoor

namespace Go.Proofs.YtgeneoamngfomaaGreatDoor
open Go.RowKit Go.Lib Go.Maps
set_option linter.unusedVariables false
set_option linter.unusedSimpArgs false

/-- What is known, out of lists of facts. -/
def envL (lf lc : List Fct) : Env := ⟨fun d k => fxL lf d k, fun k d => match lc.find? (isG k d) with | some t => t.p | none => 0, fun k f u => (lc.find? (isH k f u 1)).map fun t => t.d⟩
/-- A contract, and facts, in memory. -/
structure CtxD (w : World) (t : List Nd) (tv : Value) (B bf bc nn : Nat) (Df Dc : DataW Unit) (lf lc : List Fct) : Prop where
  sl : SlT w tv t
  bd : BdT t
  ok : (ofK t).2 = 0
  kn : KndW w
  fm : FacM w B bf bc nn Df Dc
  rf : RelV vR Df lf
  rc : RelV vI Dc lc
  of : OkL lf
  oc : ∀ x ∈ lc, x.p = 1 ∨ x.p = 2
theorem CtxD.keep {w w' : World} {t : List Nd} {tv : Value} {B bf bc nn : Nat} {Df Dc : DataW Unit} {lf lc : List Fct} (h : CtxD w t tv B bf bc nn Df Dc lf lc) (hb : Below w.heap.size w w') : CtxD w' t tv B bf bc nn Df Dc lf lc :=
  ⟨h.sl.keep hb, h.bd, h.ok, h.kn.keep hb, h.fm.keep hb, h.rf, h.rc, h.of, h.oc⟩
theorem CtxD.len {w : World} {t : List Nd} {tv : Value} {B bf bc nn : Nat} {Df Dc : DataW Unit} {lf lc : List Fct} (h : CtxD w t tv B bf bc nn Df Dc lf lc) : t.length ≤ 64 := (ofK_zero h.ok).1
theorem wrN_at {t : List Nd} (h : (ofK t).2 = 0) {p : Nat} (hp : p < t.length) (hm : mkO (opA t p) = 1) : wrN t (p : Nat) = 0 := by
  unfold wrN
  rw [if_neg (by omega), if_neg (by omega), if_neg (by rw [Int.toNat_natCast]; omega)]
/-- Places, or keys, as they lie, apart from what is put. -/
structure KyS (w : World) (R : Nat) (wv : Value) (g : Nat) (ks : List Int) : Prop where
  c : ∀ j, j < ks.length → w.cell? ⟨g, j, none⟩ = some (.int .i64 (ks.getD j 0))
  nR : 0 < ks.length → R ≠ g
  off : 0 < ks.length → Off wv g
theorem KyS.keep {w w' : World} {R : Nat} {wv : Value} {g : Nat} {ks : List Int} (h : KyS w R wv g ks) (hb : Below w.heap.size w w') : KyS w' R wv g ks := ⟨fun j hj => keepF hb (h.c j hj), h.nR, h.off⟩
theorem KyS.put {w w' : World} {R : Nat} {wv wv' : Value} {g : Nat} {ks : List Int} (h : KyS w R wv g ks) (hg : w.grownBy w' wv.ownBlock) (hat : wv'.ownBlock = wv.ownBlock ∨ wv'.ownBlock = some w.heap.size) (i : Nat) (v : Value) : KyS (w'.setCell ⟨R, i, none⟩ v) R wv' g ks :=
  ⟨fun j hj => setB (cellB hg (h.c j hj) (h.off (by omega))) (.inl (h.nR (by omega))), h.nR, fun h0 => (h.off h0).next (ltF (h.c 0 h0)) hat⟩
/-- Keys of a slice of the call's own. -/
theorem KyS.own {w : World} {R : Nat} {wv : Value} {base : Nat} {v : Value} {ks : List Int} (h : YtgeneoamngfomaaGreatDoor.Own w base v ks) (hR : R < base) (hw : ∀ k, wv.ownBlock = some k → k < base) : ∃ g cap, KyS w R wv g ks ∧ (ks = [] ∧ (∃ a, v = .slice a 0 cap) ∨ v = .slice (some ⟨g, 0, none⟩) ks.length cap) := by
  have hb := fun g (e : v.ownBlock = some g) => (World.ownsRow.lt h g e).1
  rcases h.reads with ⟨e, e2⟩ | ⟨g, cap, e, _, _, hr⟩
  · subst e2
    exact ⟨0, 0, ⟨fun j hj => absurd hj (Nat.not_lt_zero _), fun h => absurd h (Nat.lt_irrefl _), fun h => absurd h (Nat.lt_irrefl _)⟩, .inl ⟨rfl, _, e⟩⟩
  · have hg := hb g (by rw [e]; rfl)
    refine ⟨g, cap, ⟨fun j hj => ?_, fun _ => by omega, fun _ e2 => by have := hw g e2; omega⟩, .inr e⟩
    have := hr j (by simpa using hj)
    simpa using this
/-- What waiting leaves alone. -/
structure LtsW (R : Nat) (w : World) (wv0 : Value) (wx : World) (wv : Value) : Prop where
  le : w.heap.size ≤ wx.heap.size
  bl : ∀ k, k < w.heap.size → k ≠ R → Off wv0 k → wx.heap[k]? = w.heap[k]?
  off : ∀ k, k < w.heap.size → Off wv0 k → Off wv k
theorem LtsW.refl (R : Nat) (w : World) (wv : Value) : LtsW R w wv w wv := ⟨Nat.le_refl _, fun _ _ _ _ => rfl, fun _ _ h => h⟩
theorem LtsW.keep {R : Nat} {w wx wy : World} {wv0 wv : Value} (h : LtsW R w wv0 wx wv) (hb : Below wx.heap.size wx wy) : LtsW R w wv0 wy wv :=
  ⟨Nat.le_trans h.le hb.size, fun k h1 h2 h3 => (hb.block k (Nat.lt_of_lt_of_le h1 h.le)).trans (h.bl k h1 h2 h3), h.off⟩
theorem LtsW.put {R : Nat} {w wx w' : World} {wv0 wv wv' : Value} (h : LtsW R w wv0 wx wv) (hg : wx.grownBy w' wv.ownBlock) (hat : wv'.ownBlock = wv.ownBlock ∨ wv'.ownBlock = some wx.heap.size) (i : Nat) (v : Value) : LtsW R w wv0 (w'.setCell ⟨R, i, none⟩ v) wv' := by
  have hs := grownBy_set w' R i v
  refine ⟨Nat.le_trans h.le (Nat.le_trans hg.size hs.size), fun k h1 h2 h3 => ?_, fun k h1 h3 => (h.off k h1 h3).next (Nat.lt_of_lt_of_le h1 h.le) hat⟩
  have l1 := Nat.lt_of_lt_of_le h1 h.le
  exact (hs.block k (Nat.lt_of_lt_of_le l1 hg.size) (fun e => h2 (by injection e))).trans ((hg.block k l1 (fun e => h.off k h1 h3 e.symm)).trans (h.bl k h1 h2 h3))
/-- The waits for the keys so far. -/
noncomputable def askK (E : Env) (day : Int) (ks : List Int) : List Wat := (ks.filter fun k => (E.fx day k).isNone).map fun k => ⟨day, 0, k⟩
theorem askK_snoc (E : Env) (day : Int) (ks : List Int) (k : Int) : askK E day (ks ++ [k]) = askK E day ks ++ if (E.fx day k).isNone = true then [⟨day, 0, k⟩] else [] := by
  unfold askK
  rw [List.filter_append, List.map_append]
  by_cases h : (E.fx day k).isNone = true
  · simp [h]
  · simp [h]
theorem askK_len (E : Env) (day : Int) (ks : List Int) : (askK E day ks).length ≤ ks.length := by
  unfold askK; rw [List.length_map]; exact List.length_filter_le _ _
theorem fx_none {lf : List Fct} {d k : Int} : (fxL lf d k).isNone = !(gtL lf k d).2.2 := by
  unfold fxL
  cases (gtL lf k d).2.2 <;> rfl
theorem kyU_key {t : List Nd} (h : (ofK t).2 = 0) {p : Nat} (k : Int) (hk : k ∈ kyU t p) : I64 k := by
  obtain ⟨m, hm, rfl, _⟩ := (kyN_mem _ _ _ _).1 hk
  exact ⟨by omega, by omega⟩
theorem ky_take {l : List Int} {i : Nat} (h : i < l.length) : l.take (i + 1) = l.take i ++ [l.getD i 0] := by
  rw [List.take_add_one, List.getElem?_eq_getElem h, List.getD_eq_getElem?_getD, List.getElem?_eq_getElem h]; rfl
set_option maxRecDepth 100000 in
set_option maxHeartbeats 4000000 in
theorem await_any {w0 w : World} {R Z Q : Nat} {tv : Value} {tu : Int} {B bf bc nn : Nat} {Df Dc : DataW Unit} {lf lc : List Fct} {t : List Nd} (hc : CtxD w0 t tv B bf bc nn Df Dc lf lc) {qv fv wv : Value} {td : List Td} {fl : List Flw} {ws : List Wat} (h : RdR w0 w R Z Q tv tu B qv fv wv td fl ws)
    (ps : List Nat) (hl : ws.length + ps.length * 64 ≤ 50000) (hps : ∀ p ∈ ps, p < t.length ∧ mkO (opA t p) = 1) (pg cap : Nat) (hcap : ps.length ≤ cap) (hk : KyS w R wv pg (ps.map fun (p : Nat) => (p : Int))) (day : Int) (hd : I64 day) :
    Calls Tryz.prog 144 #[.pointer (some ⟨R, 0, none⟩), .int .i64 day, .slice (some ⟨pg, 0, none⟩) ps.length cap] w fun e w' => e = .returned (.tuple #[]) ∧ DnM w0 w' R Z Q tv tu B td fl (ws ++ ps.flatMap (askW t (envL lf lc) day)) ∧ Lets R wv w w' := by
  obtain ⟨wv0, hwv0⟩ : ∃ v, v = wv := ⟨_, rfl⟩
  have HL0 : Hid (LtsW R w wv0 w wv) := Lib.hid (by rw [hwv0]; exact LtsW.refl _ _ _)
  have HW0 := Lib.hid hwv0
  rw [← hwv0]
  have HC := Lib.hid hc
  have HH := Lib.hid h
  have HK := Lib.hid hk
  have HP := Lib.hid hps
  have HD := Lib.hid hd
  have pl : (ps.map fun (p : Nat) => (p : Int)).length = ps.length := by simp
  have HPl := Lib.hid pl
  have q1 : ps.length ≤ 1000 := by omega
  clear hc h hk hps hd pl hwv0
  go_enter Tryz.func144, Tryz.ntmps144
  go_wp2_with fail
  go_loopw [16] (fun vi wx => ∃ i : Nat, i ≤ ps.length ∧ vi = .int .i64 (i : Nat) ∧ ∃ qv fv wv, RdR w0 wx R Z Q tv tu B qv fv wv td fl (ws ++ (ps.take i).flatMap (askW t (envL lf lc) day)) ∧ KyS wx R wv pg (ps.map fun (p : Nat) => (p : Int)) ∧ LtsW R w wv0 wx wv) (fun vi _ => ps.length - (RowKit.intOf vi).toNat)
  case atStart => exact ⟨0, Nat.zero_le _, rfl, _, _, _, by simpa using HH.out, HK.out, HL0.out⟩
  case round =>
    obtain ⟨i, hi, rfl, qv1, fv1, wv1, hr, hk, hlw1⟩ := hrel
    have HLW := Lib.hid hlw1
    clear hlw1
    have HR := Lib.hid hr
    have HKr := Lib.hid hk
    clear HH HK
    by_cases hlt : i < ps.length
    · have p0 : (0 : Int) ≤ (i : Int) := by omega
      have p1 : (i : Int) < (ps.length : Int) := by omega
      have HLt := Lib.hid hlt
      have k0 := hk.c i (by rw [HPl.out]; exact hlt)
      obtain ⟨p, hp⟩ : ∃ p, p = ps.getD i 0 := ⟨_, rfl⟩
      have hpi : (ps.map fun (p : Nat) => (p : Int)).getD i 0 = (p : Int) := by
        rw [hp]; simp [List.getD_eq_getElem?_getD, hlt]
      have hpm : p ∈ ps := by rw [hp, List.getD_eq_getElem?_getD, List.getElem?_eq_getElem hlt]; exact List.getElem_mem hlt
      have HTk : Hid (ps.take (i + 1) = ps.take i ++ [p]) := Lib.hid (by
        rw [hp, List.take_add_one, List.getElem?_eq_getElem hlt, List.getD_eq_getElem?_getD, List.getElem?_eq_getElem hlt]; rfl)
      rw [hpi] at k0
      obtain ⟨hpl, hpo⟩ := HP.out p hpm
      have r0 := hr.r0
      have r2 := hr.r2
      have HNe := Lib.hid (needs_any t (by have := HC.out.len; omega) HC.out.bd tv wr (HC.out.keep hr.bel).sl (HC.out.keep hr.bel).kn (p : Nat))
      rw [wrN_at HC.out.ok hpl hpo] at HNe
      have HPo := Lib.hid (And.intro hpl hpo)
      clear hr hk hlt hpi hpm hp hpl hpo hi
      obtain ⟨sa, sc, rfl⟩ : ∃ a c, tv = .slice a t.length c := HC.out.sl.slice
      go_wp2_with fail
      refine HNe.out.mono ?_
      rintro e w2 ⟨(⟨hz, _⟩ | ⟨_, v', rfl, hown⟩), hb2⟩
      · exact absurd rfl hz
      rw [Int.toNat_natCast] at hown
      obtain ⟨g, kc, hky, hv⟩ := KyS.own hown HR.out.ltR (fun k e => (HR.out.ow.lt k e).2)
      have HR2 := Lib.hid (HR.out.keep hb2)
      have HKp := Lib.hid (HKr.out.keep hb2)
      have HLW2 := Lib.hid (HLW.out.keep hb2)
      have HKy := Lib.hid hky
      have HKs : Hid (kyN (subT t p (szA t p)) (pT 2 2) 64 = kyU t p) := Lib.hid rfl
      rw [HKs.out] at hv HKy
      have HKl : Hid ((kyU t p).length ≤ 64) := Lib.hid (kyN_len _ _ _)
      have HKk := Lib.hid (fun k hk => kyU_key HC.out.ok (p := p) k hk)
      have HAs : Hid (askW t (envL lf lc) day p = askK (envL lf lc) day (kyU t p)) := Lib.hid rfl
      clear hown hky hb2 HNe HR HKr k0 r0 r2
      generalize kyU t p = ks at *
      obtain ⟨va, rfl⟩ : ∃ a, v' = .slice a ks.length kc := by
        rcases hv with ⟨rfl, a, rfl⟩ | rfl
        · exact ⟨_, rfl⟩
        · exact ⟨_, rfl⟩
      have HV : Hid (0 < ks.length → va = some ⟨g, 0, none⟩) := Lib.hid (fun h0 => by
        rcases hv with ⟨rfl, a, _⟩ | e
        · exact absurd h0 (Nat.lt_irrefl _)
        · injection e)
      clear hv
      go_wp2_with fail
      go_loopw [31] (fun vj wx => ∃ j : Nat, j ≤ ks.length ∧ vj = .int .i64 (j : Nat) ∧ ∃ qv fv wv, RdR w0 wx R Z Q (.slice sa t.length sc) tu B qv fv wv td fl (ws ++ (ps.take i).flatMap (askW t (envL lf lc) day) ++ askK (envL lf lc) day (ks.take j)) ∧ KyS wx R wv pg (ps.map fun (p : Nat) => (p : Int)) ∧ KyS wx R wv g ks ∧ LtsW R w wv0 wx wv) (fun vj _ => ks.length - (RowKit.intOf vj).toNat)
      case atStart => exact ⟨0, Nat.zero_le _, rfl, _, _, _, by simpa [askK] using HR2.out, HKp.out, HKy.out, HLW2.out⟩
      case round =>
        obtain ⟨j, hj, rfl, qv3, fv3, wv3, hr, hk1, hk2, hlw3⟩ := hrel
        have HLW3 := Lib.hid hlw3
        clear hlw3
        have HR3 := Lib.hid hr
        have HK3 := Lib.hid hk1
        have HY3 := Lib.hid hk2
        have j64 : ks.length ≤ 64 := HKl.out
        by_cases hlt : j < ks.length
        · have z0 : (0 : Int) ≤ (j : Int) := by omega
          have z1 : (j : Int) < (ks.length : Int) := by omega
          have HLj := Lib.hid hlt
          have kc0 := hk2.c j hlt
          have hva := HV.out (by omega)
          subst hva
          have HTj := Lib.hid (ky_take hlt)
          have hkm : ks.getD j 0 ∈ ks := by rw [List.getD_eq_getElem?_getD, List.getElem?_eq_getElem hlt]; exact List.getElem_mem hlt
          have hki := HKk.out _ hkm
          generalize ks.getD j 0 = key at *
          have HFx := Lib.hid (fixing_l wr (HC.out.keep hr.bel).fm HC.out.rf key day hki HD.out)
          have HSn : Hid (ws ++ (ps.take i).flatMap (askW t (envL lf lc) day) ++ askK (envL lf lc) day (ks.take (j + 1)) = (ws ++ (ps.take i).flatMap (askW t (envL lf lc) day) ++ askK (envL lf lc) day (ks.take j)) ++ if ((envL lf lc).fx day key).isNone = true then [⟨day, 0, key⟩] else []) := Lib.hid (by rw [HTj.out, askK_snoc, ← List.append_assoc])
          have HIs : Hid (((envL lf lc).fx day key).isNone = !(gtL lf key day).2.2) := Lib.hid fx_none
          have r2 := hr.r2
          have HLw : Hid ((ws ++ (ps.take i).flatMap (askW t (envL lf lc) day) ++ askK (envL lf lc) day (ks.take j)).length ≤ 60000) := Lib.hid (by
            have h1 : ∀ l : List Nat, (l.flatMap (askW t (envL lf lc) day)).length ≤ l.length * 64 := fun l => by
              induction l with
              | nil => simp
              | cons a l ih =>
                have h2 := askK_len (envL lf lc) day (kyU t a)
                have h3 : (kyU t a).length ≤ 64 := kyN_len _ _ _
                have h4 : askW t (envL lf lc) day a = askK (envL lf lc) day (kyU t a) := rfl
                rw [List.flatMap_cons, List.length_append, List.length_cons, h4]
                omega
            have h2 := h1 (ps.take i)
            have h3 := askK_len (envL lf lc) day (ks.take j)
            rw [List.length_append, List.length_append]
            rw [List.length_take] at h2 h3
            omega)
          generalize ws ++ (ps.take i).flatMap (askW t (envL lf lc) day) ++ askK (envL lf lc) day (ks.take j) = wl at *
          generalize gtL lf key day = G at *
          obtain ⟨gx, gy, gi⟩ := G
          dsimp only at HFx HIs
          clear hr hk1 hk2 hlt hkm hki hj
          go_wp2_with fail
          refine HFx.out.mono ?_
          rintro e w4 ⟨rfl, hb4⟩
          have hb5 := onF hb4 (newF w4 (.cells #[.int .i64 gx, .int .i64 gy] 58))
          have HR5 := Lib.hid (HR3.out.keep hb5)
          have HK5 := Lib.hid (HK3.out.keep hb5)
          have HY5 := Lib.hid (HY3.out.keep hb5)
          have HLW5 := Lib.hid (HLW3.out.keep hb5)
          clear hb4 hb5 HR3 HK3 HY3 kc0 r2 HFx
          cases gi with
          | true =>
            rw [HIs.out, if_neg (by simp), List.append_nil] at HSn
            go_wp2_with fail
            go_roundw
            case rel => exact ⟨j + 1, HLj.out, by go_num, _, _, _, by rw [HSn.out]; exact HR5.out, HK5.out, HY5.out, HLW5.out⟩
            case measure => have := HLj.out; simp [RowKit.intOf]; omega
          | false =>
            rw [HIs.out, if_pos (by rfl)] at HSn
            have r4 := HR5.out.r4
            go_upto_region 9 with fail
            generalize w4.alloc (.cells #[.int .i64 gx, .int .i64 gy] 58) = w5 at *
            obtain ⟨wa, wc, rfl⟩ := HR5.out.ow.slice
            have HN5 := Lib.hid (HR5.out.keep (newF w5 (.cells #[.bool false, .int .i64 key, .int .i64 day] 46)))
            have HM5 := Lib.hid (HK5.out.keep (newF w5 (.cells #[.bool false, .int .i64 key, .int .i64 day] 46)))
            have HLN5 := Lib.hid (HLW5.out.keep (newF w5 (.cells #[.bool false, .int .i64 key, .int .i64 day] 46)))
            have HO5 := Lib.hid (HY5.out.keep (newF w5 (.cells #[.bool false, .int .i64 key, .int .i64 day] 46)))
            go_wp2_with (at_builtin; refine wpList_append_x (E := waL) (k := 3) (fun _ => rfl) (by decide) waL_one Tryz.underlying34 infoWa rfl (by decide) rfl _ _ rfl w0.heap.size _ wl rfl HN5.out.ow _ [⟨day, 0, key⟩] rfl (rowx_new (E := waL) (k := 3) (fun _ => rfl) w5 ⟨day, 0, key⟩ #[.bool false, .int .i64 key, .int .i64 day] rfl 46 _ rfl) (by have := HLw.out; simp; omega) HN5.out.bel.size ?_; intro v' w6 hown' hgrow hat; have HP6 := Lib.hid (HN5.out.putW hgrow hown' hat); have HK6 := Lib.hid (HM5.out.put hgrow hat 4 v'); have HY6 := Lib.hid (HO5.out.put hgrow hat 4 v'); have HLW6 := Lib.hid (HLN5.out.put hgrow hat 4 v'); have s1 := cellB hgrow HN5.out.r4 HN5.out.wR; have e2 := (frozB (i := 4) hgrow HN5.out.ltR HN5.out.wR).trans (HN5.out.fr 4); obtain ⟨sb, sd, rfl⟩ := hown'.slice; rw [show (wl ++ [(⟨day, 0, key⟩ : Wat)]).length = wl.length + 1 by simp] at HP6 HK6 HY6 HLW6; clear hown' hgrow hat)
            go_roundw
            case rel => exact ⟨j + 1, HLj.out, by go_num, _, _, _, by rw [HSn.out]; exact HP6.out, HK6.out, HY6.out, HLW6.out⟩
            case measure => have := HLj.out; simp [RowKit.intOf]; omega
        · have hje : j = ks.length := by omega
          subst hje
          have p1 : ¬ (ks.length : Int) < (ks.length : Int) := by omega
          rw [List.take_length] at HR3
          clear hr hk1 hk2 hj hlt
          go_wp2_with fail
          go_roundw
          case rel => exact ⟨i + 1, HLt.out, by go_num, _, _, _, by rw [HTk.out, List.flatMap_append, List.flatMap_singleton, HAs.out, ← List.append_assoc]; exact HR3.out, HK3.out, HLW3.out⟩
          case measure => have := HLt.out; simp [RowKit.intOf]; omega
    · have hie : i = ps.length := by omega
      subst hie
      rw [List.take_length] at HR
      have p1 : ¬ (ps.length : Int) < (ps.length : Int) := by omega
      clear hr hk hi hlt
      go_wp2_with fail
      go_end0
      exact ⟨rfl, ⟨_, _, _, HR.out⟩, HLW.out.bl⟩

end Go.Proofs.YtgeneoamngfomaaGreatDoor

namespace Go.Proofs.YtgeneoamngfomaaGreatDoor
open Go.RowKit Go.Lib Go.Maps
set_option linter.unusedVariables false
set_option linter.unusedSimpArgs false

def raL (q : Rat) : List Value := [.int .i64 q.num, .int .i64 ((q.den : Nat) : Int)]
instance : Inhabited Rat := ⟨0⟩
theorem raL_one : ∀ x : Rat, ∀ u ∈ raL x, u.oneCell' = true := fun x u hu => by
  unfold raL at hu; simp at hu; rcases hu with rfl | rfl <;> rfl
theorem infoRa : (Tryz.prog.info? 58).map (fun i => (i.zero, i.size, i.bytes)) = some (some (.agg #[.int .i64 0, .int .i64 0]), 2, 16) := by kernel_rfl
theorem at_num {t : List Nd} (h : (ofK t).2 = 0) {p : Nat} (hp : p < t.length) (hm : mkO (opA t p) = 1) {day : Int} (h0 : 0 ≤ day) (h1 : day ≤ 73048) (lf : List Fct) : atV t lf (p : Nat) day = vlA t (fxL lf day) p ∧ atE t lf (p : Nat) day = vE (vlA t (fxL lf day) p) := by
  have hw := wrN_at h hp hm
  unfold atV atE
  rw [if_neg (by omega), if_neg (by omega), if_neg (by omega), if_neg (by omega), Int.toNat_natCast]
  exact ⟨rfl, rfl⟩
theorem zero_at3 {w w' : World} {ty : TypeId} (hb : Below (w.alloc (.cells #[.bool false, .int .i64 0, .int .i64 0] ty)).drew.heap.size (w.alloc (.cells #[.bool false, .int .i64 0, .int .i64 0] ty)).drew w') :
    w'.cell? ⟨w.heap.size, 0, none⟩ = some (.bool false) ∧ w'.cell? ⟨w.heap.size, 1, none⟩ = some (.int .i64 0) ∧ w'.cell? ⟨w.heap.size, 2, none⟩ = some (.int .i64 0) ∧ w'.frozen? ⟨w.heap.size, 0, none⟩ = false ∧ w'.frozen? ⟨w.heap.size, 1, none⟩ = false ∧ w'.frozen? ⟨w.heap.size, 2, none⟩ = false := by
  have hlt : w.heap.size < (w.alloc (.cells #[.bool false, .int .i64 0, .int .i64 0] ty)).drew.heap.size := by show _ < (w.alloc (.cells #[.bool false, .int .i64 0, .int .i64 0] ty)).heap.size; simp
  have c : ∀ k v, (#[.bool false, .int .i64 0, .int .i64 0] : Array Value)[k]? = some v → w'.cell? ⟨w.heap.size, k, none⟩ = some v := fun k v h => (World.cell?_of_block (hb.block _ hlt)).trans (by show (w.alloc _).cell? _ = _; rw [World.cell?_alloc_at _ _ _ _ rfl]; exact h)
  have f : ∀ k, w'.frozen? ⟨w.heap.size, k, none⟩ = false := fun k => (World.frozen?_of_block (a := ⟨w.heap.size, k, none⟩) (hb.block _ hlt)).trans (by show (w.alloc _).frozen? _ = _; exact World.frozen?_alloc_at _ _ _ _ rfl)
  exact ⟨c 0 _ rfl, c 1 _ rfl, c 2 _ rfl, f 0, f 1, f 2⟩
/-- The values of some numbers, of which none does not fit. -/
def vals (V : Nat → Option (Option Rat)) (l : List Nat) : List Rat := l.filterMap fun p => (V p).bind id
theorem vals_snoc (V : Nat → Option (Option Rat)) (l : List Nat) (p : Nat) : vals V (l ++ [p]) = vals V l ++ (match V p with | some (some r) => [r] | _ => []) := by
  unfold vals
  rw [List.filterMap_append]
  cases h : V p with
  | none => simp [h]
  | some v =>
    cases v with
    | none => simp [h]
    | some r => simp [h]
theorem vals_len (V : Nat → Option (Option Rat)) (l : List Nat) : (vals V l).length ≤ l.length := List.length_filterMap_le _ _
theorem vals_all {V : Nat → Option (Option Rat)} : ∀ {l : List Nat}, (vals V l).length = l.length → l.map V = (vals V l).map fun r => some (some r)
  | [], _ => rfl
  | p :: l, h => by
    have hl := vals_len V l
    unfold vals at *
    cases hv : (V p).bind id with
    | none => rw [List.filterMap_cons_none (f := fun p => (V p).bind id) hv, List.length_cons] at h; omega
    | some r =>
      rw [List.filterMap_cons_some (f := fun p => (V p).bind id) hv] at h ⊢
      have := vals_all (V := V) (l := l) (by unfold vals; simpa using h)
      unfold vals at this
      rw [List.map_cons, List.map_cons, this]
      cases h2 : V p with
      | none => rw [h2] at hv; cases hv
      | some v => rw [h2] at hv; cases v with
        | none => cases hv
        | some q => injection hv with hv; subst hv; rfl
theorem vals_less {V : Nat → Option (Option Rat)} {l : List Nat} (hn : ∀ p ∈ l, V p ≠ none) (h : (vals V l).length < l.length) : ∃ p ∈ l, V p = some none := by
  induction l with
  | nil => simp at h
  | cons p l ih =>
    cases hv : V p with
    | none => exact absurd hv (hn p (by simp))
    | some v =>
      cases v with
      | none => exact ⟨p, by simp, hv⟩
      | some r =>
        unfold vals at h ih
        rw [List.filterMap_cons_some (f := fun p => (V p).bind id) (b := r) (by rw [hv]; rfl)] at h
        obtain ⟨q, hq, e⟩ := ih (fun q hq => hn q (by simp [hq])) (by simpa using h)
        exact ⟨q, by simp [hq], e⟩
theorem Lets.up {R : Nat} {wv : Value} {w w1 w2 : World} (hb : Below w.heap.size w w1) (h : Lets R wv w1 w2) : Lets R wv w w2 := fun k h1 h2 h3 => (h k (Nat.lt_of_lt_of_le h1 hb.size) h2 h3).trans (hb.block k h1)
theorem Lets.of {R : Nat} {wv : Value} {w w1 : World} (hb : Below w.heap.size w w1) : Lets R wv w w1 := fun k h1 _ _ => hb.block k h1
/-- What ask answers. -/
def AskP (wv : Value) (w0 w : World) (R Z Q : Nat) (tv : Value) (tu : Int) (B : Nat) (td : List Td) (fl : List Flw) (ws : List Wat) (t : List Nd) (E : Env) (day : Int) (ps : List Nat) (e : Ending) (w' : World) : Prop :=
  ((∃ p ∈ ps, vlA t (E.fx day) p = none) ∧ e = .returned (.tuple #[.slice none 0 0, .bool false, .int .i64 11]) ∧ Below w.heap.size w w') ∨
  ((∀ p ∈ ps, vlA t (E.fx day) p ≠ none) ∧ (∃ p ∈ ps, vlA t (E.fx day) p = some none) ∧ e = .returned (.tuple #[.slice none 0 0, .bool false, .int .i64 0]) ∧ DnM w0 w' R Z Q tv tu B td fl (ws ++ ps.flatMap (askW t E day)) ∧ Lets R wv w w') ∨
  (∃ rs vv, ps.map (vlA t (E.fx day)) = rs.map (fun r => some (some r)) ∧ e = .returned (.tuple #[vv, .bool true, .int .i64 0]) ∧ OwnX raL 2 58 w' w.heap.size vv rs ∧ Below w.heap.size w w')
theorem AskP.lets {wv : Value} {w0 w : World} {R Z Q : Nat} {tv : Value} {tu : Int} {B : Nat} {td : List Td} {fl : List Flw} {ws : List Wat} {t : List Nd} {E : Env} {day : Int} {ps : List Nat} {e : Ending} {w' : World} (h : AskP wv w0 w R Z Q tv tu B td fl ws t E day ps e w') : Lets R wv w w' := by
  rcases h with ⟨_, _, hb⟩ | ⟨_, _, _, _, hl⟩ | ⟨rs, vv, _, _, ho, hb⟩
  · exact Lets.of hb
  · exact hl
  · exact Lets.of hb
set_option maxRecDepth 100000 in
set_option maxHeartbeats 4000000 in
theorem ask_any {w0 w : World} {R Z Q : Nat} {tv : Value} {tu : Int} {B bf bc nn : Nat} {Df Dc : DataW Unit} {lf lc : List Fct} {t : List Nd} (hc : CtxD w0 t tv B bf bc nn Df Dc lf lc) {qv fv wv : Value} {td : List Td} {fl : List Flw} {ws : List Wat} (h : RdR w0 w R Z Q tv tu B qv fv wv td fl ws)
    (ps : List Nat) (hl : ws.length + ps.length * 64 ≤ 50000) (hps : ∀ p ∈ ps, p < t.length ∧ mkO (opA t p) = 1) (pg cap : Nat) (hcap : ps.length ≤ cap) (hk : KyS w R wv pg (ps.map fun (p : Nat) => (p : Int))) (day : Int) (hd0 : 0 ≤ day) (hd1 : day ≤ 73048) :
    Calls Tryz.prog 119 #[.pointer (some ⟨R, 0, none⟩), .int .i64 day, .slice (some ⟨pg, 0, none⟩) ps.length cap] w (AskP wv w0 w R Z Q tv tu B td fl ws t (envL lf lc) day ps) := by
  have HC := Lib.hid hc
  have HH := Lib.hid h
  have HK := Lib.hid hk
  have HP := Lib.hid hps
  have HD := Lib.hid (And.intro hd0 hd1)
  have HAw := Lib.hid (fun (w' : World) (hb : Below w.heap.size w w') => await_any hc (h.keep hb) ps hl hps pg cap hcap (hk.keep hb) day ⟨by omega, by omega⟩)
  have HPl : Hid ((ps.map fun (p : Nat) => (p : Int)).length = ps.length) := Lib.hid (by simp)
  have q1 : ps.length ≤ 1000 := by omega
  obtain ⟨V, hV⟩ : ∃ V, V = vlA t ((envL lf lc).fx day) := ⟨_, rfl⟩
  have HV := Lib.hid hV
  obtain ⟨sa, sc, rfl⟩ : ∃ a c, tv = .slice a t.length c := hc.sl.slice
  have hVl := vals_len V ps
  clear hc h hk hps hd0 hd1 hV
  go_enter Tryz.func119, Tryz.ntmps119
  go_wp2_with fail
  go_loopw [16, 9] (fun vi vv wx => ∃ i : Nat, i ≤ ps.length ∧ vi = .int .i64 (i : Nat) ∧ OwnX raL 2 58 wx w.heap.size vv (vals V (ps.take i)) ∧ Below w.heap.size w wx ∧ ∀ p ∈ ps.take i, V p ≠ none) (fun vi _ _ => ps.length - (RowKit.intOf vi).toNat)
  case atStart => exact ⟨0, Nat.zero_le _, rfl, OwnX.nil _ _ _ _ _, Below.refl _ _, fun p hp => by simp at hp⟩
  case round =>
    obtain ⟨i, hi, rfl, ho, hb, hn⟩ := hrel
    have HO := Lib.hid ho
    have HB := Lib.hid hb
    have HN := Lib.hid hn
    by_cases hlt : i < ps.length
    · have p0 : (0 : Int) ≤ (i : Int) := by omega
      have p1 : (i : Int) < (ps.length : Int) := by omega
      have HLt := Lib.hid hlt
      have hr := HH.out.keep hb
      have k0 := (HK.out.keep hb).c i (by rw [HPl.out]; exact hlt)
      obtain ⟨p, hp⟩ : ∃ p, p = ps.getD i 0 := ⟨_, rfl⟩
      have hpi : (ps.map fun (p : Nat) => (p : Int)).getD i 0 = (p : Int) := by
        rw [hp]; simp [List.getD_eq_getElem?_getD, hlt]
      have hpm : p ∈ ps := by rw [hp, List.getD_eq_getElem?_getD, List.getElem?_eq_getElem hlt]; exact List.getElem_mem hlt
      have HTk : Hid (ps.take (i + 1) = ps.take i ++ [p]) := Lib.hid (by
        rw [hp, List.take_add_one, List.getElem?_eq_getElem hlt, List.getD_eq_getElem?_getD, List.getElem?_eq_getElem hlt]; rfl)
      have HPm := Lib.hid hpm
      rw [hpi] at k0
      obtain ⟨hpl, hpo⟩ := HP.out p hpm
      have r0 := hr.r0
      have r2 := hr.r2
      obtain ⟨a1, a2⟩ := at_num HC.out.ok hpl hpo HD.out.1 HD.out.2 lf
      have HAt := Lib.hid (fun (w' : World) (hb' : Below wr.heap.size wr w') => vat_any t (by have := HC.out.len; omega) HC.out.bd _ w' ((HC.out.keep hr.bel).sl.keep hb') ((HC.out.keep hr.bel).kn.keep hb') (p : Nat) day ((HC.out.keep hr.bel).fm.keep hb') HC.out.rf HC.out.of)
      rw [a1, a2] at HAt
      have hVp : vlA t (fxL lf day) p = V p := by rw [HV.out]; rfl
      rw [hVp] at HAt
      obtain ⟨va, vc, rfl⟩ := ho.slice
      have HVs := Lib.hid (vals_snoc V (ps.take i) p)
      have HLn : Hid ((vals V (ps.take i)).length ≤ 1000) := Lib.hid (by have := vals_len V (ps.take i); rw [List.length_take] at this; omega)
      clear hr hlt hpi hpm hp hpl hpo hi ho hb hn a1 a2 hVp
      generalize vals V (ps.take i) = vl at *
      obtain ⟨vb, hvb⟩ : ∃ x, x = vB (V p) := ⟨_, rfl⟩
      obtain ⟨vn, hvn⟩ : ∃ x, x = vN (V p) := ⟨_, rfl⟩
      obtain ⟨vd, hvd⟩ : ∃ x, x = vD (V p) := ⟨_, rfl⟩
      obtain ⟨ve, hve⟩ : ∃ x, x = vE (V p) := ⟨_, rfl⟩
      rw [← hvb, ← hvn, ← hvd, ← hve] at HAt
      have HVv := Lib.hid (And.intro hvb (And.intro hvn (And.intro hvd hve)))
      clear hvb hvn hvd hve
      go_upto_region 5 with fail
      go_cut [12, 13] from 17 to 44 (fun u v wx => ∃ X, u = .pointer (some ⟨X, 0, none⟩) ∧ v = .int .i64 ve ∧ wx.cell? ⟨X, 0, none⟩ = some (.bool vb) ∧ wx.cell? ⟨X, 1, none⟩ = some (.int .i64 vn) ∧ wx.cell? ⟨X, 2, none⟩ = some (.int .i64 vd) ∧ Below wr.heap.size wr wx)
      case first =>
        have b0 : Below wr.heap.size wr wr.drew := Below.drew (Below.refl _ _)
        have b1 : ∀ o, Below wr.heap.size wr (wr.alloc o).drew := fun o => Below.drew (newF wr o)
        have HRc := Lib.hid (And.intro r0 r2)
        have kd0 : wr.drew.cell? ⟨R, 0, none⟩ = some (.slice sa t.length sc) := r0
        have kd1 : wr.drew.cell? ⟨R, 2, none⟩ = some (.pointer (some ⟨B, 0, none⟩)) := r2
        have ka0 : ∀ x, (wr.alloc x).drew.cell? ⟨R, 0, none⟩ = some (.slice sa t.length sc) := fun x => keepF (Below.drew (newF wr x)) r0
        have ka1 : ∀ x, (wr.alloc x).drew.cell? ⟨R, 2, none⟩ = some (.pointer (some ⟨B, 0, none⟩)) := fun x => keepF (Below.drew (newF wr x)) r2
        have hRlt := ltF r0
        clear r0 r2
        go_region_held3 (fun w' => w'.cell? ⟨R, 0, none⟩ = some (.slice sa t.length sc) ∧ w'.cell? ⟨R, 2, none⟩ = some (.pointer (some ⟨B, 0, none⟩)))
          (first | (with_reducible exact ⟨kd0, kd1⟩) | (with_reducible exact ⟨ka0 _, ka1 _⟩) | (with_reducible exact ⟨k0, k1⟩) | (with_reducible exact ⟨keepF (newF _ _) k0, keepF (newF _ _) k1⟩) | (with_reducible exact ⟨setB (setB (setB k0 (.inl (Nat.ne_of_gt hRlt))) (.inl (Nat.ne_of_gt hRlt))) (.inl (Nat.ne_of_gt hRlt)), setB (setB (setB k1 (.inl (Nat.ne_of_gt hRlt))) (.inl (Nat.ne_of_gt hRlt))) (.inl (Nat.ne_of_gt hRlt))⟩))
          (first | (go_at_call 143; (first | (with_reducible refine (HAt.out _ b0).mono ?_) | (with_reducible refine (HAt.out _ (b1 _)).mono ?_)); rintro e w3 ⟨rfl, hb3⟩; (first | (have HB3 : Hid (Below wr.heap.size wr w3) := Lib.hid (onF b0 hb3)) | (have HB3 : Hid (Below wr.heap.size wr w3) := Lib.hid (onF (b1 _) hb3); obtain ⟨v0, v1, v2, z0, z1, z2⟩ := zero_at3 hb3)); clear hb3; have k0 := keepF HB3.out HRc.out.1; have k1 := keepF HB3.out HRc.out.2))
        all_goals go_wp2
        all_goals go_meet
        all_goals first
          | exact ⟨_, rfl, rfl, by rw [World.cell?_alloc_at _ _ _ _ rfl]; rfl, by rw [World.cell?_alloc_at _ _ _ _ rfl]; rfl, by rw [World.cell?_alloc_at _ _ _ _ rfl]; rfl, onF HB3.out (newF _ _)⟩
          | exact ⟨_, rfl, rfl, setB (setB (cell_same v0) (.inr (by decide))) (.inr (by decide)), setB (cell_same (setB v1 (.inr (by decide)))) (.inr (by decide)), cell_same (setB (setB v2 (.inr (by decide))) (.inr (by decide))), Below.setCell (Below.setCell (Below.setCell HB3.out (Nat.le_refl _) _) (Nat.le_refl _) _) (Nat.le_refl _) _⟩
      case rest =>
        obtain ⟨X, rfl, rfl, u0, u1, u2, hbc⟩ := hcut
        have HBc := Lib.hid (onF HB.out hbc)
        have HOc := Lib.hid (HO.out.grown hbc)
        clear r0 r2 k0 hbc HAt HB HO
        cases hvp : V p with
        | none =>
          rw [hvp] at HVv
          obtain ⟨e1, _, _, e4⟩ := HVv.out
          have HX := Lib.hid hvp
          clear HVv hvp
          change vb = false at e1
          change ve = 11 at e4
          subst e1 e4
          go_wp2_with fail
          (try simp only [Exit.inBlock, Exit.then])
          refine bodyPost_ret (v := .tuple #[.slice none 0 0, .bool false, .int .i64 11]) (by simp [results, Tryz.results119, go_sem]) rfl ?_
          exact .inl ⟨⟨p, HPm.out, by rw [← HV.out]; exact HX.out⟩, rfl, HBc.out⟩
        | some v =>
          cases v with
          | none =>
            rw [hvp] at HVv HVs
            obtain ⟨e1, _, _, e4⟩ := HVv.out
            have HX := Lib.hid hvp
            clear HVv hvp
            change vb = false at e1
            change ve = 0 at e4
            subst e1 e4
            rw [List.append_nil] at HVs
            go_wp2_with fail
            go_roundw
            case rel => exact ⟨i + 1, HLt.out, by go_num, by rw [HTk.out, HVs.out]; exact HOc.out, HBc.out, fun q hq => by
              rw [HTk.out] at hq
              rcases List.mem_append.1 hq with hq | hq
              · exact HN.out q hq
              · obtain rfl := List.mem_singleton.1 hq
                rw [HX.out]; intro e; cases e⟩
            case measure => have := HLt.out; simp [RowKit.intOf]; omega
          | some r =>
            rw [hvp] at HVv HVs
            obtain ⟨e1, e2, e3, e4⟩ := HVv.out
            have HX := Lib.hid hvp
            clear HVv hvp
            change vb = true at e1
            change vn = r.num at e2
            change vd = ((r.den : Nat) : Int) at e3
            change ve = 0 at e4
            have HE : Hid (raL r = [.int .i64 vn, .int .i64 vd]) := Lib.hid (by unfold raL; rw [e2, e3])
            clear e2 e3
            subst e1 e4
            dsimp only at HVs
            go_wp2_with (at_builtin; refine wpList_append_x (E := raL) (k := 2) (fun _ => rfl) (by decide) raL_one Tryz.underlying193 infoRa rfl (by decide) rfl _ _ rfl w.heap.size _ vl rfl (HOc.out.grown (newF wc _)) _ [r] rfl (rowx_new (E := raL) (k := 2) (fun _ => rfl) wc r #[.int .i64 vn, .int .i64 vd] (by rw [HE.out]) 58 _ rfl) (by have := HLn.out; simp; omega) (by have := HBc.out.size; simp; omega) ?_; intro v' w6 hown' hgrow hat; have HO6 := Lib.hid hown'; have HB6 := Lib.hid (below_x (onF HBc.out (newF wc (.cells #[.int .i64 vn, .int .i64 vd] 58))) (HOc.out.grown (newF wc _)) (Nat.le_refl _) (by have := HBc.out.size; simp; omega) hgrow); obtain ⟨sb, sd, rfl⟩ := hown'.slice; rw [show (vl ++ [r]).length = vl.length + 1 by simp] at HO6; clear hown' hgrow hat)
            go_roundw
            case rel => exact ⟨i + 1, HLt.out, by go_num, by rw [HTk.out, HVs.out]; exact HO6.out, HB6.out, fun q hq => by
              rw [HTk.out] at hq
              rcases List.mem_append.1 hq with hq | hq
              · exact HN.out q hq
              · obtain rfl := List.mem_singleton.1 hq
                rw [HX.out]; intro e; cases e⟩
            case measure => have := HLt.out; simp [RowKit.intOf]; omega
    · have hie : i = ps.length := by omega
      subst hie
      rw [List.take_length] at HO HN
      have p1 : ¬ (ps.length : Int) < (ps.length : Int) := by omega
      have HAz := Lib.hid (HAw.out wr hb)
      rw [List.take_length] at ho
      obtain ⟨va, vc, rfl⟩ := ho.slice
      have HBz := Lib.hid hb
      have HVe := Lib.hid (And.intro (fun h => vals_all (V := V) (l := ps) h) (fun h => vals_less (V := V) (l := ps) HN.out h))
      clear ho hb hn hi hlt HAw
      generalize vals V ps = vl at *
      by_cases hlen : vl.length < ps.length
      · have i1 : (vl.length : Int) < (ps.length : Int) := by omega
        obtain ⟨p, hp1, hp2⟩ := HVe.out.2 hlen
        have HPz := Lib.hid (And.intro hp1 hp2)
        clear hlen hp1 hp2
        go_wp2_with fail
        refine HAz.out.mono ?_
        rintro e w8 ⟨rfl, hm, hlt⟩
        have HM := Lib.hid hm
        have HLz := Lib.hid (Lets.up HBz.out hlt)
        clear hm hlt
        go_wp2_with fail
        (try simp only [Exit.inBlock, Exit.then])
        refine bodyPost_ret (v := .tuple #[.slice none 0 0, .bool false, .int .i64 0]) (by simp [results, Tryz.results119, go_sem]) rfl ?_
        exact .inr (.inl ⟨fun q hq => by rw [← HV.out]; exact HN.out q hq, ⟨p, HPz.out.1, by rw [← HV.out]; exact HPz.out.2⟩, rfl, HM.out, HLz.out⟩)
      · have i1 : ¬ (vl.length : Int) < (ps.length : Int) := by omega
        have HEq := Lib.hid (HVe.out.1 (by omega))
        clear hlen
        go_wp2_with fail
        (try simp only [Exit.inBlock, Exit.then])
        refine bodyPost_ret (v := .tuple #[.slice va vl.length vc, .bool true, .int .i64 0]) (by simp [results, Tryz.results119, go_sem]) rfl ?_
        exact .inr (.inr ⟨vl, _, by rw [← HV.out]; exact HEq.out, rfl, HO.out, HBz.out⟩)

end Go.Proofs.YtgeneoamngfomaaGreatDoor

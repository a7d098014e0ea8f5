/-
  Package agenda: the queue as it lies in memory: items that are a heap, and where those of numbers stand.
-/
import Derived.Test.YtkfcaafjnolhgaaAgC
import Derived.Maps.Views
import Derived.Maps.Keyed
namespace Go.Proofs.Ytkfcaafjnolhgaa
open Go.RowKit Go.Lib Go.Maps Go.Sort
set_option linter.unusedVariables false
set_option linter.unusedSimpArgs false

def itL (x : It) : List Value := [.int .i64 x.d, .int .i64 x.no, .int .i64 x.tag]
theorem itL_len (x : It) : (itL x).length = 3 := rfl
theorem itL_one (x : It) : ∀ u ∈ itL x, u.oneCell' = true := by
  intro u hu
  unfold itL at hu
  simp only [List.mem_cons, List.not_mem_nil, or_false] at hu
  rcases hu with rfl | rfl | rfl <;> rfl
theorem infoIt : (Try.prog.info? 31).map (fun i => (i.zero, i.size, i.bytes)) = some (some (.agg #[.int .i64 0, .int .i64 0, .int .i64 0]), 3, 24) := by kernel_rfl
noncomputable abbrev intElem : Value → Option (DataW Unit × List MemPlace) := plainElem Try.prog 3
def intD (n : Int) : DataW Unit := .lit (.int .i64 n)
def kI (n : Int) : Lit := .int .i64 n
theorem int_law : Keyed Try.prog 3 := int_keyed Try.underlying3
theorem kI_key {n : Int} (h : I64 n) : keyOf Try.prog 3 (.int .i64 n) = some (kI n) := keyOf_int_mk Try.underlying3 (wf64 h)
theorem kI_inj {a b : Int} (h : kI a = kI b) : a = b := by unfold kI at h; injection h
theorem kI_ne {a b : Int} (h : a ≠ b) : kI a ≠ kI b := fun e => h (kI_inj e)
theorem kI_is (n : Int) : WideAt.IsKeyLit (kI n) := by unfold kI; simp [WideAt.IsKeyLit]
theorem int_zero (w : World) : (zeroValue 3).run Try.prog w = .ok (.int .i64 0) w := by kernel_rfl
theorem intElem_mk {n : Int} (h : I64 n) : intElem (.int .i64 n) = some (intD n, []) := plainElem_int Try.underlying3 (wf64 h)
theorem below_grow (w : World) (q : Nat) (os : Array Obj) : Below w.heap.size w (grow (w.drewN q) os) :=
  ⟨rfl, rfl, rfl, by simp [grow], fun k hk => heap_grow_old _ _ hk⟩
theorem map_exact {P : Program} {k : TypeId} {R : Value → Option (DataW Unit × List MemPlace)} {w : World} {b n : Nat} {D : DataW Unit} (h : w.ownsMap P k R b n D) : w.ownsMap P k R b (Maps.size D) D := by
  obtain ⟨es, clock, hb, F, hs, rfl⟩ := h
  refine ⟨es, clock, hb, F, ?_, rfl⟩
  simp [Maps.size, length_sorted]

/-- Where the items of numbers stand. -/
structure PlD (D : DataW Unit) (l : List It) : Prop where
  im : Tidy D
  sz : Maps.size D = l.length
  on : ∀ i, i < l.length → Maps.has D (kI (itm l i).no) = true ∧ ∀ z, D.atKey (kI (itm l i).no) z = intD (i : Nat)
  of : ∀ n, Maps.has D (kI n) = true → ∃ i, i < l.length ∧ (itm l i).no = n
theorem PlD.inj {D : DataW Unit} {l : List It} (h : PlD D l) {i j : Nat} (hi : i < l.length) (hj : j < l.length) (e : (itm l i).no = (itm l j).no) : i = j := by
  have h1 := (h.on i hi).2 (intD 0)
  have h2 := (h.on j hj).2 (intD 0)
  rw [e, h2] at h1
  unfold intD at h1
  injection h1 with h1
  injection h1 with _ h1
  omega
theorem tidyM {D : DataW Unit} (h : Tidy D) : IsMap D := by
  obtain ⟨es, e, _⟩ := h
  exact ⟨es, e⟩
theorem PlD.swap {D : DataW Unit} {l : List It} (h : PlD D l) {i j : Nat} (hi : i < l.length) (hj : j < l.length) : PlD ((D.put (kI (itm l j).no) (intD (i : Nat))).put (kI (itm l i).no) (intD (j : Nat))) (swI l i j) := by
  have m1 : Tidy (D.put (kI (itm l j).no) (intD (i : Nat))) := Tidy.put h.im (kI_is _) _
  have g1 : Maps.has (D.put (kI (itm l j).no) (intD (i : Nat))) (kI (itm l i).no) = true := by
    by_cases e : (itm l i).no = (itm l j).no
    · rw [e]; exact has_put_same (tidyM h.im) (kI_is _) _
    · rw [has_put_other (kI_ne e)]; exact (h.on i hi).1
  refine ⟨Tidy.put m1 (kI_is _) _, ?_, fun k hk => ?_, fun n hn => ?_⟩
  · rw [size_put m1, if_pos g1, size_put h.im, if_pos (h.on j hj).1, swI_len, h.sz]
  · rw [swI_len] at hk
    rw [itm_sw hi hj]
    by_cases e1 : k = j
    · subst e1
      rw [if_pos rfl]
      exact ⟨has_put_same (tidyM m1) (kI_is _) _, fun z => atKey_put_same (tidyM m1) (kI_is _) _ z⟩
    · rw [if_neg e1]
      by_cases e2 : k = i
      · subst e2
        rw [if_pos rfl]
        have hne : (itm l j).no ≠ (itm l k).no := fun e => e1 (h.inj hi hj e.symm)
        exact ⟨by rw [has_put_other (kI_ne hne)]; exact has_put_same (tidyM h.im) (kI_is _) _, fun z => by rw [atKey_put_other (kI_ne hne)]; exact atKey_put_same (tidyM h.im) (kI_is _) _ z⟩
      · rw [if_neg e2]
        have n1 : (itm l k).no ≠ (itm l i).no := fun e => e2 (h.inj hk hi e)
        have n2 : (itm l k).no ≠ (itm l j).no := fun e => e1 (h.inj hk hj e)
        exact ⟨by rw [has_put_other (kI_ne n1), has_put_other (kI_ne n2)]; exact (h.on k hk).1, fun z => by rw [atKey_put_other (kI_ne n1), atKey_put_other (kI_ne n2)]; exact (h.on k hk).2 z⟩
  · by_cases e1 : n = (itm l i).no
    · exact ⟨j, by rw [swI_len]; exact hj, by rw [itm_sw hi hj, if_pos rfl]; exact e1.symm⟩
    · rw [has_put_other (kI_ne e1)] at hn
      by_cases e2 : n = (itm l j).no
      · by_cases e3 : i = j
        · subst e3; exact absurd e2 e1
        · exact ⟨i, by rw [swI_len]; exact hi, by rw [itm_sw hi hj, if_neg e3, if_pos rfl]; exact e2.symm⟩
      · rw [has_put_other (kI_ne e2)] at hn
        obtain ⟨k, hk, e⟩ := h.of n hn
        exact ⟨k, by rw [swI_len]; exact hk, by rw [itm_sw hi hj, if_neg (fun c => e2 (by rw [← e, c])), if_neg (fun c => e1 (by rw [← e, c]))]; exact e⟩
theorem itm_app {l : List It} {x : It} {k : Nat} (hk : k < l.length) : itm (l ++ [x]) k = itm l k := by
  unfold itm; rw [List.getD_eq_getElem?_getD, List.getElem?_append_left hk, ← List.getD_eq_getElem?_getD]
theorem itm_last (l : List It) (x : It) : itm (l ++ [x]) l.length = x := by
  unfold itm; rw [List.getD_eq_getElem?_getD, List.getElem?_append_right (Nat.le_refl _)]; simp
theorem PlD.push {D : DataW Unit} {l : List It} (h : PlD D l) {x : It} (hx : Maps.has D (kI x.no) = false) : PlD (D.put (kI x.no) (intD (l.length : Nat))) (l ++ [x]) := by
  have ne : ∀ i, i < l.length → (itm l i).no ≠ x.no := fun i hi e => by
    have := (h.on i hi).1
    rw [e, hx] at this; cases this
  refine ⟨Tidy.put h.im (kI_is _) _, ?_, fun k hk => ?_, fun n hn => ?_⟩
  · rw [size_put h.im, if_neg (by rw [hx]; decide), h.sz]; simp
  · rw [List.length_append] at hk
    by_cases e : k < l.length
    · rw [itm_app e]
      exact ⟨by rw [has_put_other (kI_ne (ne k e))]; exact (h.on k e).1, fun z => by rw [atKey_put_other (kI_ne (ne k e))]; exact (h.on k e).2 z⟩
    · have e' : k = l.length := by simp at hk; omega
      subst e'
      rw [itm_last]
      exact ⟨has_put_same (tidyM h.im) (kI_is _) _, fun z => atKey_put_same (tidyM h.im) (kI_is _) _ z⟩
  · by_cases e : n = x.no
    · exact ⟨l.length, by simp, by rw [itm_last]; exact e.symm⟩
    · rw [has_put_other (kI_ne e)] at hn
      obtain ⟨k, hk, e'⟩ := h.of n hn
      exact ⟨k, by simp; omega, by rw [itm_app hk]; exact e'⟩
theorem PlD.pop {D : DataW Unit} {l : List It} {x : It} (h : PlD D (l ++ [x])) : PlD (D.del (kI x.no)) l := by
  have hx := h.on l.length (by simp)
  rw [itm_last] at hx
  have ne : ∀ i, i < l.length → (itm l i).no ≠ x.no := fun i hi e => by
    have := h.inj (i := i) (j := l.length) (by simp; omega) (by simp) (by rw [itm_app hi, itm_last]; exact e)
    omega
  refine ⟨Tidy.del h.im _, ?_, fun k hk => ?_, fun n hn => ?_⟩
  · have := size_del (k := kI x.no) h.im
    rw [if_pos hx.1, h.sz] at this
    simp at this; omega
  · have := h.on k (by simp; omega)
    rw [itm_app hk] at this
    exact ⟨by rw [has_del_other (kI_ne (ne k hk))]; exact this.1, fun z => by rw [atKey_del_other (kI_ne (ne k hk))]; exact this.2 z⟩
  · by_cases e : n = x.no
    · rw [e, has_del_same] at hn; cases hn
    · rw [has_del_other (kI_ne e)] at hn
      obtain ⟨k, hk, e'⟩ := h.of n hn
      by_cases c : k < l.length
      · exact ⟨k, c, by rw [itm_app c] at e'; exact e'⟩
      · have : k = l.length := by simp at hk; omega
        rw [this, itm_last] at e'
        exact absurd e'.symm e
/-- The same numbers in the same places. -/
theorem PlD.other {D : DataW Unit} {l m : List It} (h : PlD D l) (hl : m.length = l.length) (hn : ∀ i, i < l.length → (itm m i).no = (itm l i).no) : PlD D m :=
  ⟨h.im, by rw [hl]; exact h.sz, fun i hi => by rw [hn i (by omega)]; exact h.on i (by omega), fun n h1 => by
    obtain ⟨i, h2, h3⟩ := h.of n h1
    exact ⟨i, by omega, by rw [hn i h2]; exact h3⟩⟩

theorem set3_list : ∀ (l : List It) (i : Nat) (x : It), i < l.length → ((((l.flatMap itL).set (i * 3) (.int .i64 x.d)).set (i * 3 + 1) (.int .i64 x.no)).set (i * 3 + 2) (.int .i64 x.tag)) = (l.set i x).flatMap itL
  | [], i, x, h => absurd h (Nat.not_lt_zero _)
  | y :: l, 0, x, h => rfl
  | y :: l, i + 1, x, h => by
    have ih := set3_list l i x (by simpa using h)
    rw [List.set_cons_succ, List.flatMap_cons, List.flatMap_cons, ← ih]
    have e : (i + 1) * 3 = i * 3 + 1 + 1 + 1 := by omega
    rw [e]
    rfl
/-- An item is another one. -/
theorem OwnX.put3 {w : World} {base g cap n : Nat} {l : List It} (h : OwnX itL 3 31 w base (.slice (some ⟨g, 0, none⟩) n cap) l) (hn : n = l.length) {i : Nat} (hi : i < l.length) (x : It) : OwnX itL 3 31 (((w.setCell ⟨g, i * 3, none⟩ (.int .i64 x.d)).setCell ⟨g, i * 3 + 1, none⟩ (.int .i64 x.no)).setCell ⟨g, i * 3 + 2, none⟩ (.int .i64 x.tag)) base (.slice (some ⟨g, 0, none⟩) n cap) (l.set i x) ∧ w.grownBy (((w.setCell ⟨g, i * 3, none⟩ (.int .i64 x.d)).setCell ⟨g, i * 3 + 1, none⟩ (.int .i64 x.no)).setCell ⟨g, i * 3 + 2, none⟩ (.int .i64 x.tag)) (some g) := by
  subst hn
  obtain ⟨h1, g1⟩ := World.ownsRow.stored h (i * 3) (.int .i64 x.d)
  obtain ⟨h2, g2⟩ := World.ownsRow.stored h1 (i * 3 + 1) (.int .i64 x.no)
  obtain ⟨h3, g3⟩ := World.ownsRow.stored h2 (i * 3 + 2) (.int .i64 x.tag)
  rw [set3_list l i x hi] at h3
  refine ⟨?_, ⟨g3.os.trans (g2.os.trans g1.os), g3.tape.trans (g2.tape.trans g1.tape), g3.output.trans (g2.output.trans g1.output), Nat.le_trans g1.size (Nat.le_trans g2.size g3.size), fun k hk hne => (g3.block k (Nat.lt_of_lt_of_le hk (Nat.le_trans g1.size g2.size)) hne).trans ((g2.block k (Nat.lt_of_lt_of_le hk g1.size) hne).trans (g1.block k hk hne))⟩⟩
  unfold OwnX
  rw [List.length_set]
  exact h3

/-- Nothing has turned but in some blocks. -/
structure Off (F : Nat → Prop) (w w' : World) : Prop where
  os : w'.os = w.os
  tape : w'.tape = w.tape
  output : w'.output = w.output
  size : w.heap.size ≤ w'.heap.size
  block : ∀ k, k < w.heap.size → ¬ F k → w'.heap[k]? = w.heap[k]?
theorem Off.refl (F : Nat → Prop) (w : World) : Off F w w := ⟨rfl, rfl, rfl, Nat.le_refl _, fun _ _ _ => rfl⟩
theorem Off.trans {F F' : Nat → Prop} {w w1 w2 : World} (h : Off F w w1) (h' : Off F' w1 w2) (hF : ∀ k, F' k → F k ∨ w.heap.size ≤ k) : Off F w w2 :=
  ⟨h'.os.trans h.os, h'.tape.trans h.tape, h'.output.trans h.output, Nat.le_trans h.size h'.size, fun k hk hn => (h'.block k (Nat.lt_of_lt_of_le hk h.size) (fun c => (hF k c).elim hn (fun e => by omega))).trans (h.block k hk hn)⟩
theorem Off.mono {F F' : Nat → Prop} {w w' : World} (h : Off F w w') (hF : ∀ k, F k → F' k) : Off F' w w' := ⟨h.os, h.tape, h.output, h.size, fun k hk hn => h.block k hk (fun c => hn (hF k c))⟩
theorem Off.below {F : Nat → Prop} {w w' : World} {n : Nat} (h : Off F w w') (hF : ∀ k, F k → n ≤ k) (hn : n ≤ w.heap.size) : Below n w w' := ⟨h.os, h.tape, h.output, h.size, fun k hk => h.block k (Nat.lt_of_lt_of_le hk hn) (fun c => by have := hF k c; omega)⟩
theorem Off.of {F : Nat → Prop} {w w' : World} (h : Below w.heap.size w w') : Off F w w' := ⟨h.os, h.tape, h.output, h.size, fun k hk _ => h.block k hk⟩
theorem Off.grown {F : Nat → Prop} {w w' : World} {row : Option Nat} (h : w.grownBy w' row) (hF : ∀ k, row = some k → F k) : Off F w w' := ⟨h.os, h.tape, h.output, h.size, fun k hk hn => h.block k hk (fun e => hn (hF k e.symm))⟩
theorem Off.cell {F : Nat → Prop} {w w' : World} (h : Off F w w') {b i : Nat} {v : Value} (hc : w.cell? ⟨b, i, none⟩ = some v) (hn : ¬ F b) : w'.cell? ⟨b, i, none⟩ = some v := (World.cell?_of_block (h.block b (ltF hc) hn)).trans hc
theorem Off.frozen {F : Nat → Prop} {w w' : World} (h : Off F w w') {b i : Nat} (hb : b < w.heap.size) (hn : ¬ F b) : w'.frozen? ⟨b, i, none⟩ = w.frozen? ⟨b, i, none⟩ := World.frozen?_of_block (h.block b hb hn)
theorem Off.row {α : Type} {E : α → List Value} {k : Nat} {ty : TypeId} {F : Nat → Prop} {w w' : World} {base : Nat} {v : Value} {t : List α} (h : Off F w w') (ho : OwnX E k ty w base v t) (hn : ∀ g, v.ownBlock = some g → ¬ F g) : OwnX E k ty w' base v t := by
  obtain ⟨h1, h2⟩ := ho
  refine ⟨h1, ?_⟩
  rcases h2 with h2 | ⟨g, cap, cur, rfl, hb, hc, h3⟩
  · exact Or.inl h2
  · refine Or.inr ⟨g, cap, cur, rfl, hb, ?_, h3⟩
    rw [h.block g (Array.getElem?_eq_some_iff.1 hc).1 (hn g rfl)]
    exact hc
theorem Off.map {P : Program} {k : TypeId} {R : Value → Option (DataW Unit × List MemPlace)} {F : Nat → Prop} {w w' : World} {b n : Nat} {D : DataW Unit} (h : Off F w w') (hm : w.ownsMap P k R b n D) (hn : ¬ F b) : w'.ownsMap P k R b n D := by
  have hlt := hm.lt
  obtain ⟨es, clock, hb, r⟩ := hm
  exact ⟨es, clock, (h.block b hlt hn).trans hb, r⟩

/-- A queue in memory. -/
structure QuM (w : World) (base q bm : Nat) (lv : Value) (l : List It) (D : DataW Unit) : Prop where
  c0 : w.cell? ⟨q, 0, none⟩ = some lv
  c1 : w.cell? ⟨q, 1, none⟩ = some (.map (some bm))
  f0 : w.frozen? ⟨q, 0, none⟩ = false
  hl : OwnX itL 3 31 w base lv l
  hm : w.ownsMap Try.prog 3 intElem bm (Maps.size D) D
  nq : lv.ownBlock ≠ some q
  nm : lv.ownBlock ≠ some bm
  qm : q ≠ bm
  bb : base ≤ q ∧ base ≤ bm
/-- The blocks of a queue. -/
def FpQ (q bm : Nat) (lv : Value) (k : Nat) : Prop := k = q ∨ k = bm ∨ lv.ownBlock = some k
theorem QuM.off {w w' : World} {base q bm : Nat} {lv : Value} {l : List It} {D : DataW Unit} {F : Nat → Prop} (h : QuM w base q bm lv l D) (ho : Off F w w') (hF : ∀ k, FpQ q bm lv k → ¬ F k) : QuM w' base q bm lv l D :=
  ⟨ho.cell h.c0 (hF q (.inl rfl)), ho.cell h.c1 (hF q (.inl rfl)), (ho.frozen (ltF h.c0) (hF q (.inl rfl))).trans h.f0, ho.row h.hl (fun g hg => hF g (.inr (.inr hg))), ho.map h.hm (hF bm (.inr (.inl rfl))), h.nq, h.nm, h.qm, h.bb⟩
theorem QuM.keep {w w' : World} {base q bm : Nat} {lv : Value} {l : List It} {D : DataW Unit} (h : QuM w base q bm lv l D) (hb : Below w.heap.size w w') : QuM w' base q bm lv l D := h.off (Off.of (F := fun _ => False) hb) (fun _ _ c => c)
theorem QuM.lo {w : World} {base q bm : Nat} {lv : Value} {l : List It} {D : DataW Unit} (h : QuM w base q bm lv l D) : ∀ k, FpQ q bm lv k → base ≤ k := by
  rintro k (rfl | rfl | e)
  · exact h.bb.1
  · exact h.bb.2
  · exact (h.hl.lt k e).1
theorem QuM.hi {w : World} {base q bm : Nat} {lv : Value} {l : List It} {D : DataW Unit} (h : QuM w base q bm lv l D) : ∀ k, FpQ q bm lv k → k < w.heap.size := by
  rintro k (rfl | rfl | e)
  · exact ltF h.c0
  · exact h.hm.lt
  · exact (h.hl.lt k e).2
/-- The cells of an item. -/
theorem QuM.at {w : World} {base q bm : Nat} {lv : Value} {l : List It} {D : DataW Unit} (h : QuM w base q bm lv l D) (h0 : 0 < l.length) : ∃ g cap, lv = .slice (some ⟨g, 0, none⟩) l.length cap ∧ l.length ≤ cap ∧ cap ≤ 9223372036854775807 ∧ g ≠ q ∧ g ≠ bm ∧ base ≤ g ∧ ∀ j, j < l.length → w.cell? ⟨g, j * 3, none⟩ = some (.int .i64 (itm l j).d) ∧ w.cell? ⟨g, j * 3 + 1, none⟩ = some (.int .i64 (itm l j).no) ∧ w.cell? ⟨g, j * 3 + 2, none⟩ = some (.int .i64 (itm l j).tag) := by
  obtain ⟨g, cap, rfl, hb, h1, h2, hc⟩ := h.hl.at (E := itL) (k := 3) itL_len h0
  refine ⟨g, cap, rfl, h1, h2, fun e => h.nq (by rw [e]; rfl), fun e => h.nm (by rw [e]; rfl), hb, fun j hj => ⟨hc j hj 0 _ (by decide) rfl, hc j hj 1 _ (by decide) rfl, hc j hj 2 _ (by decide) rfl⟩⟩

theorem QuM.fz {w : World} {base q bm g cap n : Nat} {l : List It} {D : DataW Unit} (h : QuM w base q bm (.slice (some ⟨g, 0, none⟩) n cap) l D) (hn : n = l.length) (k : Nat) : w.frozen? ⟨g, k, none⟩ = false := by
  subst hn
  exact World.ownsRow.frozenAt h.hl k
theorem QuM.drew {w : World} {base q bm : Nat} {lv : Value} {l : List It} {D : DataW Unit} (h : QuM w base q bm lv l D) : QuM w.drew base q bm lv l D := ⟨h.c0, h.c1, h.f0, h.hl, h.hm, h.nq, h.nm, h.qm, h.bb⟩
/-- An item is another one. -/
theorem QuM.put3 {w : World} {base q bm g cap n : Nat} {l : List It} {D : DataW Unit} (h : QuM w base q bm (.slice (some ⟨g, 0, none⟩) n cap) l D) (hn : n = l.length) {i : Nat} (hi : i < l.length) (x : It) : QuM (((w.setCell ⟨g, i * 3, none⟩ (.int .i64 x.d)).setCell ⟨g, i * 3 + 1, none⟩ (.int .i64 x.no)).setCell ⟨g, i * 3 + 2, none⟩ (.int .i64 x.tag)) base q bm (.slice (some ⟨g, 0, none⟩) n cap) (l.set i x) D ∧ Off (FpQ q bm (.slice (some ⟨g, 0, none⟩) n cap)) w (((w.setCell ⟨g, i * 3, none⟩ (.int .i64 x.d)).setCell ⟨g, i * 3 + 1, none⟩ (.int .i64 x.no)).setCell ⟨g, i * 3 + 2, none⟩ (.int .i64 x.tag)) := by
  obtain ⟨h1, hg⟩ := OwnX.put3 h.hl hn hi x
  have hgq : q ≠ g := fun e => h.nq (by rw [e]; rfl)
  have hgm : bm ≠ g := fun e => h.nm (by rw [e]; rfl)
  have ho : Off (fun k => k = g) w _ := Off.grown hg (fun k e => by injection e with e; exact e.symm)
  exact ⟨⟨ho.cell h.c0 hgq, ho.cell h.c1 hgq, (ho.frozen (ltF h.c0) hgq).trans h.f0, h1, ho.map h.hm hgm, h.nq, h.nm, h.qm, h.bb⟩, ho.mono (fun k e => .inr (.inr (by rw [e]; rfl)))⟩
/-- Where a number stands is another place. -/
theorem QuM.mapped {w w' : World} {base q bm : Nat} {lv : Value} {l : List It} {D D' : DataW Unit} {n : Nat} (h : QuM w base q bm lv l D) (hm : w'.ownsMap Try.prog 3 intElem bm n D') (hg : w.grownBy w' (some bm)) : QuM w' base q bm lv l D' ∧ Off (FpQ q bm lv) w w' := by
  have ho : Off (fun k => k = bm) w w' := Off.grown hg (fun k e => by injection e with e; exact e.symm)
  exact ⟨⟨ho.cell h.c0 h.qm, ho.cell h.c1 h.qm, (ho.frozen (ltF h.c0) h.qm).trans h.f0, ho.row h.hl (fun g hg e => h.nm (by rw [hg, e])), map_exact hm, h.nq, h.nm, h.qm, h.bb⟩, ho.mono (fun k e => .inr (.inl e))⟩
theorem mt_law : Try.prog.underlying 76 = some (.map 3 3) := Try.underlying76
/-- A number is put into its place. -/
theorem QuM.store {w : World} {base q bm : Nat} {lv : Value} {l : List It} {D : DataW Unit} (h : QuM w base q bm lv l D) (hD : Maps.size D ≤ 1000000) {n k : Int} (hn : I64 n) (hk : I64 k) : ∃ w', (Instr.mapUpdate 76 (.map (some bm)) (.int .i64 n) (.int .i64 k)).run Try.prog w = .ok () w' ∧ QuM w' base q bm lv l (D.put (kI n) (intD k)) ∧ Off (FpQ q bm lv) w w' := by
  obtain ⟨w', hr, hm, hg⟩ := h.hm.update int_law mt_law (by unfold maxLen; omega) (kI_key hn) (intElem_mk hk)
  exact ⟨w', hr, h.mapped hm hg⟩
theorem Off.both {F : Nat → Prop} {w w1 w2 : World} (h : Off F w w1) (h' : Off F w1 w2) : Off F w w2 := h.trans h' (fun k c => .inl c)
theorem Off.drew {F : Nat → Prop} {w w' : World} (h : Off F w w') : Off F w w'.drew := ⟨h.os, h.tape, h.output, h.size, h.block⟩
theorem Off.undrew {F : Nat → Prop} {w w' : World} (h : Off F w.drew w') : Off F w w' := ⟨h.os, h.tape, h.output, h.size, h.block⟩
theorem size_put_le {D : DataW Unit} (h : Tidy D) (k : Lit) (d : DataW Unit) : Maps.size (D.put k d) ≤ Maps.size D + 1 := by
  rw [size_put h]; split <;> omega
theorem QuM.tidy {w : World} {base q bm : Nat} {lv : Value} {l : List It} {D : DataW Unit} (h : QuM w base q bm lv l D) : Tidy D := h.hm.tidy int_law

end Go.Proofs.Ytkfcaafjnolhgaa

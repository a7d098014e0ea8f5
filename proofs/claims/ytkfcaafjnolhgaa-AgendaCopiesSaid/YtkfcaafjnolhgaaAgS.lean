/-
  Rows of structs: what is sorted.
-/
import Derived.Test.YtkfcaafjnolhgaaAgM
import Derived.Shelf.SlSortCmp.NoneTotal
import Derived.Sort.Grow
namespace Go.Proofs.Ytkfcaafjnolhgaa
open Go.RowKit Go.Lib Go.Maps Go.Sort Go.Shelf
set_option linter.unusedVariables false
set_option linter.unusedSimpArgs false
set_option linter.unusedSectionVars false

variable {α : Type} [Inhabited α]
theorem flxK_list {E : α → List Value} {k : Nat} (hk : ∀ t, (E t).length = k) (k0 : 0 < k) (l : List α) : flatK E k l.toArray = (l.flatMap E).toArray := by
  refine ext_get! (by simp [flx_len hk]) fun t ht => ?_
  have ht' : t < l.length * k := by simpa using ht
  rw [get_flatK _ _ _ t (by simpa using ht')]
  have hq : t / k < l.length := Nat.div_lt_of_lt_mul (by rw [Nat.mul_comm]; exact ht')
  have hr : t % k < k := Nat.mod_lt _ k0
  have hg := flx_get hk l (t / k) (t % k) hq hr
  have et : t / k * k + t % k = t := by rw [Nat.mul_comm]; exact Nat.div_add_mod t k
  rw [et] at hg
  have e1 : (l.flatMap E).toArray[t]! = ((l.flatMap E)[t]?).getD default := by simp
  rw [e1, hg]
  have e2 : l.toArray[t / k]! = l.getD (t / k) default := by simp [List.getD_eq_getElem?_getD]
  rw [e2]
  simp
theorem holds_of_blockX {w : World} {g : Nat} {cur : Array Value} {e : TypeId} {xs : List Value} (hb : w.heap[g]? = some (.cells cur e (0, 0))) (ht : cur.toList.take xs.length = xs) : Holds id w g 0 xs.toArray := by
  intro j hj
  have hj' : j < xs.length := by simpa using hj
  refine ⟨?_, by simp [World.frozen?, hb]⟩
  have h1 : (cur.toList.take xs.length)[j]? = xs[j]? := by rw [ht]
  rw [List.getElem?_take_of_lt hj'] at h1
  simp only [World.cell?, hb, Nat.zero_add]
  simp only [Option.isSome_none, Bool.false_eq_true, if_false]
  rw [← Array.getElem?_toList, h1]
  simp [hj']
theorem heap_sortedX {w : World} {g n : Nat} {os : Array Obj} {cur : Array Value} {e : TypeId} {fr : Nat × Nat} (d : Array Value) (hb : w.heap[g]? = some (.cells cur e fr)) :
    (grow (putRow id (Sort.ahead w n) g 0 d) os).heap[g]? = some (.cells (putCells id 0 d cur) e fr) := by
  have hg : g < w.heap.size := (Array.getElem?_eq_some_iff.1 hb).1
  rw [heap_grow_old _ _ (by simpa using hg)]
  simp [putRow, mapBlock, Sort.ahead, Array.getElem?_modify, hb, onCells]
theorem grownBy_sortedX {w : World} {g n : Nat} {os : Array Obj} (d : Array Value) : w.grownBy (grow (putRow id (Sort.ahead w n) g 0 d) os) (some g) := by
  refine ⟨rfl, rfl, rfl, by simp, fun k hk hne => ?_⟩
  rw [heap_grow_old _ _ (by simpa using hk)]
  have : g ≠ k := fun e => hne (by rw [e])
  simp [putRow, mapBlock, Sort.ahead, Array.getElem?_modify, this]
theorem take_putCellsX (cur : Array Value) (ts : List Value) (h : ts.length ≤ cur.size) : (putCells id 0 ts.toArray cur).toList.take ts.length = ts := by
  apply List.ext_getElem?
  intro j
  by_cases hj : j < ts.length
  · rw [List.getElem?_take_of_lt hj, Array.getElem?_toList]
    simp [putCells, hj, show j < cur.size by omega]
  · rw [List.getElem?_take_eq_none (by omega), List.getElem?_eq_none (by omega)]

/-- A sort of structs of the call's own. -/
theorem sort_x {E : α → List Value} {k : Nat} {ty : TypeId} {cf : α → α → Int} (hk : ∀ t, (E t).length = k) (k0 : 0 < k) {P : Program} {fs : Nat} {fv : Value} {w : World}
    (hN : ∀ (p : Option Addr) (cap : Nat), Calls P fs #[.slice p 0 cap, fv] w fun e w' => e = .returned (.tuple #[]) ∧ w' = w)
    (hS : ∀ (blk cap : Nat) (d : Array α), HoldsK E k w blk 0 d → blk < w.heap.size → d.size < 4611686018427387904 → Calls P fs #[.slice (some ⟨blk, 0, none⟩) d.size cap, fv] w fun e w' => e = .returned (.tuple #[]) ∧ ∃ d' n os, PermIn 0 d.size d d' ∧ SortedIn (ltOf cf) 0 d.size d' ∧ w' = sortWorldK E k w blk 0 n d' os)
    {base : Nat} {v : Value} {ps : List α} (ho : OwnX E k ty w base v ps) (hl : ps.length ≤ 100000) :
    Calls P fs #[v, fv] w fun e w' => e = .returned (.tuple #[]) ∧ ∃ m, m.Pairwise (fun a b => ltOf cf b a = false) ∧ m.Perm ps ∧ OwnX E k ty w' base v m ∧ w.grownBy w' v.ownBlock := by
  obtain ⟨h1, h2⟩ := id ho
  have self : ∀ e (w' : World), e = Ending.returned (.tuple #[]) ∧ w' = w → ps.length = 0 → e = .returned (.tuple #[]) ∧ ∃ m, m.Pairwise (fun a b => ltOf cf b a = false) ∧ m.Perm ps ∧ OwnX E k ty w' base v m ∧ w.grownBy w' v.ownBlock := by
    rintro e w' ⟨rfl, rfl⟩ h0
    have hps : ps = [] := List.length_eq_zero_iff.1 h0
    subst hps
    exact ⟨rfl, [], List.Pairwise.nil, List.Perm.refl _, ho, rfl, rfl, rfl, Nat.le_refl _, fun _ _ _ => rfl⟩
  rcases h2 with ⟨rfl, h0⟩ | ⟨g, cap, cur, rfl, hb, hc, hnc, hm, hz, ht⟩
  · exact (hN none 0).mono fun e w' h => self e w' h h0
  · by_cases h0 : ps.length = 0
    · rw [h0]
      rw [h0] at self
      exact (hN _ cap).mono fun e w' h => by
        have := self e w' h rfl
        exact this
    · have hH : HoldsK E k w g 0 ps.toArray := by
        unfold HoldsK
        rw [flxK_list hk k0]
        exact holds_of_blockX hc (by rw [h1]; exact ht)
      have hlt : g < w.heap.size := (Array.getElem?_eq_some_iff.1 hc).1
      have := hS g cap ps.toArray hH hlt (by simp; omega)
      rw [List.size_toArray] at this
      refine this.mono ?_
      rintro e w' ⟨rfl, d', q, os, ⟨hz', _, hP⟩, hs, rfl⟩
      have e1 : (d'.extract 0 ps.length).toList = d'.toList := by rw [show ps.length = d'.size by rw [hz']; simp]; simp
      have e2 : (ps.toArray.extract 0 ps.length).toList = ps := by simp
      rw [e1, e2] at hP
      have hml : d'.toList.length = ps.length := hP.length_eq
      have hds : d'.size = ps.length := by simpa using hml
      have ed : flatK E k d' = (d'.toList.flatMap E).toArray := by rw [← flxK_list hk k0 d'.toList]
      refine ⟨rfl, d'.toList, ?_, hP, ⟨by rw [flx_len hk], .inr ⟨g, cap, putCells id 0 (flatK E k d') cur, by rw [hml], hb, ?_, by omega, hm, by simp [putCells, hz], ?_⟩⟩, ?_⟩
      · rw [List.pairwise_iff_getElem]
        intro i j hi hj hij
        have hj' : j < d'.size := by simpa using hj
        have hi' : i < d'.size := by omega
        have := hs i j (Nat.zero_le _) hij (by omega)
        rw [getElem!_pos d' j hj', getElem!_pos d' i hi'] at this
        simpa using this
      · exact heap_sortedX _ hc
      · rw [ed, hml, ← hml, ← flx_len hk d'.toList]
        exact take_putCellsX cur _ (by rw [flx_len hk, hml, hz]; exact Nat.mul_le_mul_right k hnc)
      · exact grownBy_sortedX _

end Go.Proofs.Ytkfcaafjnolhgaa

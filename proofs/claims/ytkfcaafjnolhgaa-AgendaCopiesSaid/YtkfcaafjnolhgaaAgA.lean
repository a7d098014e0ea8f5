/-
  Items of an agenda: their order, rows that are heaps: no program.
-/
import Derived.RowKit
import Derived.Lib.Hide
namespace Go.Proofs.Ytkfcaafjnolhgaa
open Go.RowKit Go.Lib
set_option linter.unusedVariables false

structure It where
  d : Int
  no : Int
  tag : Int
deriving DecidableEq
instance : Inhabited It := ⟨⟨0, 0, 0⟩⟩
def bfI (a b : It) : Prop := a.d < b.d ∨ (a.d = b.d ∧ a.no < b.no)
instance (a b : It) : Decidable (bfI a b) := by unfold bfI; exact inferInstance
theorem bfI_irr (a : It) : ¬ bfI a a := by unfold bfI; omega
theorem bfI_trans {a b c : It} (h : bfI a b) (h' : bfI b c) : bfI a c := by unfold bfI at *; omega
theorem bfI_asym {a b : It} (h : bfI a b) : ¬ bfI b a := by unfold bfI at *; omega
/-- Not behind, twice. -/
theorem nbI_trans {a b c : It} (h : ¬ bfI b a) (h' : ¬ bfI c b) : ¬ bfI c a := by unfold bfI at *; omega
theorem bfI_nb {a b c : It} (h : bfI a b) (h' : ¬ bfI c b) : ¬ bfI c a := by unfold bfI at *; omega
theorem nb_bfI {a b c : It} (h : ¬ bfI b a) (h' : bfI b c) : ¬ bfI c a := by unfold bfI at *; omega

/-- What stands at a place. -/
def itm (l : List It) (i : Nat) : It := l.getD i default
def swI (l : List It) (i j : Nat) : List It := (l.set i (itm l j)).set j (itm l i)
theorem swI_len (l : List It) (i j : Nat) : (swI l i j).length = l.length := by simp [swI]
theorem itm_sw {l : List It} {i j : Nat} (hi : i < l.length) (hj : j < l.length) (k : Nat) : itm (swI l i j) k = if k = j then itm l i else if k = i then itm l j else itm l k := by
  unfold swI itm
  simp only [List.getD_eq_getElem?_getD, List.getElem?_set, List.length_set]
  by_cases h1 : k = j
  · subst h1; simp [hj]
  · by_cases h2 : k = i
    · subst h2; simp [h1, Ne.symm h1, hi, hj]
    · simp [h1, h2, Ne.symm h1, Ne.symm h2]
theorem itm_get {l : List It} {i : Nat} (hi : i < l.length) : itm l i = l[i] := by
  unfold itm; rw [List.getD_eq_getElem?_getD, List.getElem?_eq_getElem hi]; rfl
theorem swI_perm {l : List It} {i j : Nat} (hi : i < l.length) (hj : j < l.length) : (swI l i j).Perm l := by
  unfold swI
  rw [itm_get hi, itm_get hj]
  exact List.set_set_perm hi hj
def Hp (l : List It) (n : Nat) : Prop := ∀ j, 0 < j → j < n → ¬ bfI (itm l j) (itm l ((j - 1) / 2))
/-- But for a place that may be ahead of the one above. -/
structure HpU (l : List It) (n k : Nat) : Prop where
  a : ∀ j, 0 < j → j < n → j ≠ k → ¬ bfI (itm l j) (itm l ((j - 1) / 2))
  b : ∀ j, 0 < j → j < n → (j - 1) / 2 = k → 0 < k → ¬ bfI (itm l j) (itm l ((k - 1) / 2))
/-- But for a place that may be anything. -/
structure HpE (l : List It) (n k : Nat) : Prop where
  a : ∀ j, 0 < j → j < n → j ≠ k → (j - 1) / 2 ≠ k → ¬ bfI (itm l j) (itm l ((j - 1) / 2))
  b : ∀ j, 0 < j → j < n → (j - 1) / 2 = k → 0 < k → ¬ bfI (itm l j) (itm l ((k - 1) / 2))
theorem HpU.done {l : List It} {n k : Nat} (h : HpU l n k) (hk : 0 < k → k < n → ¬ bfI (itm l k) (itm l ((k - 1) / 2))) : Hp l n := fun j h0 hn => by
  by_cases e : j = k
  · subst e; exact hk h0 hn
  · exact h.a j h0 hn e
theorem HpU.step {l : List It} {n k : Nat} (h : HpU l n k) (hn : n ≤ l.length) (h0 : 0 < k) (hk : k < n) (hb : bfI (itm l k) (itm l ((k - 1) / 2))) : HpU (swI l ((k - 1) / 2) k) n ((k - 1) / 2) := by
  have hi : (k - 1) / 2 < k := by omega
  have s := fun q => itm_sw (l := l) (i := (k - 1) / 2) (j := k) (by omega) (by omega) q
  refine ⟨fun j j0 jn je => ?_, fun j j0 jn je i0 => ?_⟩
  · rw [s j, s ((j - 1) / 2), if_neg je]
    by_cases e1 : j = k
    · subst e1
      rw [if_pos rfl, if_neg (by omega), if_pos rfl]
      exact bfI_asym hb
    · rw [if_neg e1]
      by_cases e2 : (j - 1) / 2 = k
      · rw [if_pos e2]
        exact h.b j j0 jn e2 h0
      · rw [if_neg e2]
        by_cases e3 : (j - 1) / 2 = (k - 1) / 2
        · rw [if_pos e3]
          have := h.a j j0 jn e1
          rw [e3] at this
          exact bfI_nb hb this
        · rw [if_neg e3]
          exact h.a j j0 jn e1
  · rw [s j, s (((k - 1) / 2 - 1) / 2), if_neg (show ¬ ((k - 1) / 2 - 1) / 2 = k by omega), if_neg (show ¬ ((k - 1) / 2 - 1) / 2 = (k - 1) / 2 by omega), if_neg (show ¬ j = (k - 1) / 2 by omega)]
    have hp := h.a ((k - 1) / 2) i0 (by omega) (by omega)
    by_cases e1 : j = k
    · rw [if_pos e1]; exact hp
    · rw [if_neg e1]
      have := h.a j j0 jn e1
      rw [je] at this
      exact nbI_trans hp this
/-- One that goes down: what stands there now is not ahead of the one above. -/
theorem HpE.step {l : List It} {n k j : Nat} (h : HpE l n k) (hn : n ≤ l.length) (h0 : 0 < j) (hj : j < n) (hp : (j - 1) / 2 = k) (hb : bfI (itm l j) (itm l k)) (hs : ∀ q, 0 < q → q < n → (q - 1) / 2 = k → ¬ bfI (itm l q) (itm l j)) :
    HpE (swI l k j) n j ∧ ¬ bfI (itm (swI l k j) j) (itm (swI l k j) ((j - 1) / 2)) := by
  have s := fun q => itm_sw (l := l) (i := k) (j := j) (by omega) (by omega) q
  refine ⟨⟨fun q q0 qn e1 e2 => ?_, fun q q0 qn e1 _ => ?_⟩, ?_⟩
  · rw [s q, s ((q - 1) / 2), if_neg e1, if_neg e2]
    by_cases e3 : q = k
    · subst e3
      rw [if_pos rfl, if_neg (by omega)]
      exact h.b j h0 hj hp q0
    · rw [if_neg e3]
      by_cases e4 : (q - 1) / 2 = k
      · rw [if_pos e4]; exact hs q q0 qn e4
      · rw [if_neg e4]; exact h.a q q0 qn e3 e4
  · rw [s q, s ((j - 1) / 2), if_neg (show ¬ q = j by omega), if_neg (show ¬ q = k by omega), if_neg (show ¬ (j - 1) / 2 = j by omega), if_pos hp]
    have := h.a q q0 qn (by omega) (by omega)
    rw [e1] at this
    exact this
  · rw [s j, s ((j - 1) / 2), if_pos rfl, if_neg (show ¬ (j - 1) / 2 = j by omega), if_pos hp]
    exact bfI_asym hb
/-- Nothing below is ahead. -/
theorem HpE.up {l : List It} {n k : Nat} (h : HpE l n k) (hs : ∀ q, 0 < q → q < n → (q - 1) / 2 = k → ¬ bfI (itm l q) (itm l k)) : HpU l n k :=
  ⟨fun j j0 jn je => by
    by_cases e : (j - 1) / 2 = k
    · rw [e]; exact hs j j0 jn e
    · exact h.a j j0 jn je e, h.b⟩
theorem HpE.done {l : List It} {n k : Nat} (h : HpE l n k) (hs : ∀ q, 0 < q → q < n → (q - 1) / 2 = k → ¬ bfI (itm l q) (itm l k)) (hk : 0 < k → k < n → ¬ bfI (itm l k) (itm l ((k - 1) / 2))) : Hp l n := (h.up hs).done hk
/-- The first one is not behind any other one. -/
theorem Hp.first {l : List It} {n : Nat} (h : Hp l n) : ∀ m j, j ≤ m → j < n → ¬ bfI (itm l j) (itm l 0)
  | 0, j, hm, hj => by
    obtain rfl : j = 0 := by omega
    exact bfI_irr _
  | m + 1, j, hm, hj => by
    by_cases e : j = 0
    · subst e; exact bfI_irr _
    · exact nbI_trans (h.first m ((j - 1) / 2) (by omega) (by omega)) (h j (by omega) hj)
/-- One more, at the end. -/
theorem Hp.push {l : List It} (h : Hp l l.length) (x : It) : HpU (l ++ [x]) (l.length + 1) l.length := by
  have e : ∀ j, j < l.length → itm (l ++ [x]) j = itm l j := fun j hj => by
    unfold itm; rw [List.getD_eq_getElem?_getD, List.getElem?_append_left hj, ← List.getD_eq_getElem?_getD]
  refine ⟨fun j j0 jn je => ?_, fun j j0 jn je _ => by omega⟩
  rw [e j (by omega), e _ (by omega)]
  exact h j j0 (by omega)
/-- One that is another one now. -/
theorem Hp.other {l : List It} {n k : Nat} (h : Hp l n) {m : List It} (he : ∀ j, j < n → j ≠ k → itm m j = itm l j) : HpE m n k := by
  refine ⟨fun j j0 jn e1 e2 => ?_, fun j j0 jn e1 k0 => ?_⟩
  · rw [he j jn e1, he _ (by omega) e2]; exact h j j0 jn
  · have hk : (k - 1) / 2 ≠ k := by omega
    rw [he j jn (by omega), he _ (by omega) hk]
    have h1 := h j j0 jn
    rw [e1] at h1
    have h2 := h k k0 (by omega)
    exact nbI_trans h2 h1
theorem Hp.less {l : List It} {n m : Nat} (h : Hp l n) (hm : m ≤ n) : Hp l m := fun j j0 jn => h j j0 (by omega)
theorem Hp.take {l : List It} {n : Nat} (h : Hp l n) : Hp (l.take n) n := fun j j0 jn => by
  have e : ∀ q, q < n → itm (l.take n) q = itm l q := fun q hq => by
    unfold itm; rw [List.getD_eq_getElem?_getD, List.getElem?_take_of_lt hq, ← List.getD_eq_getElem?_getD]
  rw [e j jn, e _ (by omega)]; exact h j j0 jn

/-- In order, each number once. -/
def SrI (l : List It) : Prop := l.Pairwise bfI
theorem srI_uniq : ∀ {a b : List It}, SrI a → SrI b → (∀ x, x ∈ a ↔ x ∈ b) → a = b
  | [], [], _, _, _ => rfl
  | [], y :: b, _, _, hm => absurd ((hm y).2 (by simp)) (by simp)
  | x :: a, [], _, _, hm => absurd ((hm x).1 (by simp)) (by simp)
  | x :: a, y :: b, ha, hb, hm => by
    obtain ⟨h1, h2⟩ := List.pairwise_cons.1 ha
    obtain ⟨h3, h4⟩ := List.pairwise_cons.1 hb
    have e : x = y := by
      rcases List.mem_cons.1 ((hm x).1 (by simp)) with e | hx
      · exact e
      · rcases List.mem_cons.1 ((hm y).2 (by simp)) with e | hy
        · exact e.symm
        · exact absurd (h1 y hy) (bfI_asym (h3 x hx))
    subst e
    rw [srI_uniq h2 h4 (fun z => by
      constructor
      · intro hz
        rcases List.mem_cons.1 ((hm z).1 (by simp [hz])) with e | h
        · subst e; exact absurd (h1 z hz) (bfI_irr z)
        · exact h
      · intro hz
        rcases List.mem_cons.1 ((hm z).2 (by simp [hz])) with e | h
        · subst e; exact absurd (h3 z hz) (bfI_irr z)
        · exact h)]
/-- One more, where it stands in order. -/
def inI (x : It) : List It → List It
  | [] => [x]
  | y :: l => if bfI y x then y :: inI x l else x :: y :: l
theorem inI_mem (x y : It) : ∀ l : List It, y ∈ inI x l ↔ y = x ∨ y ∈ l
  | [] => by simp [inI]
  | z :: l => by
    unfold inI
    split
    · rw [List.mem_cons, inI_mem x y l, List.mem_cons]
      constructor
      · rintro (h | h | h)
        · exact .inr (.inl h)
        · exact .inl h
        · exact .inr (.inr h)
      · rintro (h | h | h)
        · exact .inr (.inl h)
        · exact .inl h
        · exact .inr (.inr h)
    · rw [List.mem_cons]
theorem inI_perm (x : It) : ∀ l : List It, (inI x l).Perm (x :: l)
  | [] => List.Perm.refl _
  | y :: l => by
    unfold inI
    split
    · exact (List.Perm.cons y (inI_perm x l)).trans (List.Perm.swap _ _ _)
    · exact List.Perm.refl _
theorem inI_srt {x : It} : ∀ {l : List It}, SrI l → (∀ y ∈ l, y.no ≠ x.no) → SrI (inI x l)
  | [], _, _ => by simp [inI, SrI]
  | y :: l, h, hn => by
    obtain ⟨h1, h2⟩ := List.pairwise_cons.1 h
    unfold inI
    split
    · rename_i c
      refine List.pairwise_cons.2 ⟨fun z hz => ?_, inI_srt h2 (fun z hz => hn z (by simp [hz]))⟩
      rcases (inI_mem x z l).1 hz with e | hz
      · subst e; exact c
      · exact h1 z hz
    · rename_i c
      have hxy : bfI x y := by
        have := hn y (by simp)
        unfold bfI at *; omega
      refine List.pairwise_cons.2 ⟨fun z hz => ?_, h⟩
      rcases List.mem_cons.1 hz with e | hz
      · subst e; exact hxy
      · exact bfI_trans hxy (h1 z hz)
/-- All but the one of a number. -/
def noI (no : Int) (l : List It) : List It := l.filter fun x => x.no ≠ no
theorem noI_mem (no : Int) (x : It) (l : List It) : x ∈ noI no l ↔ x ∈ l ∧ x.no ≠ no := by
  unfold noI; rw [List.mem_filter, decide_eq_true_eq]
theorem noI_srt {no : Int} {l : List It} (h : SrI l) : SrI (noI no l) := List.Pairwise.sublist List.filter_sublist h
theorem noI_len (no : Int) (l : List It) : (noI no l).length ≤ l.length := List.length_filter_le _ _

end Go.Proofs.Ytkfcaafjnolhgaa

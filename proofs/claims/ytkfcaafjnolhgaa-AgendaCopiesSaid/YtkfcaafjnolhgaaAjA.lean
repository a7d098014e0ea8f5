/-
  chattellaw11.AgendaMoves: an item moved, and moved back: no program.
-/
import Derived.Test.YtkfcaafjnolhgaaAiA
namespace Go.Proofs.Ytkfcaafjnolhgaa
open Go.RowKit Go.Lib Go.Maps Go.Sort Go.Shelf
set_option linter.unusedVariables false
set_option linter.unusedSimpArgs false

/-- The days of items are days. -/
def DaS (L : List It) : Prop := ∀ x ∈ L, 0 ≤ x.d ∧ x.d ≤ 73048
theorem das_in {L : List It} {x : It} (h : DaS L) (hx : 0 ≤ x.d ∧ x.d ≤ 73048) : DaS (inI x L) := fun y hy => by
  rcases (inI_mem _ _ _).1 hy with rfl | hy
  · exact hx
  · exact h y hy
theorem das_no {L : List It} {no : Int} (h : DaS L) : DaS (noI no L) := fun y hy => h y ((noI_mem _ _ _).1 hy).1
theorem das_do {L : List It} (h : DaS L) (k d t : Int) (n : Nat) : DaS (doZ k d t L n).L := by
  unfold doZ putZ takeZ dropZ moveZ
  split
  · split
    · rename_i hd; exact das_in h hd
    · exact h
  split
  · split
    · exact h
    · rename_i x M _
      split
      · exact fun y hy => h y (List.mem_cons_of_mem _ hy)
      · exact h
  split
  · split
    · exact das_no h
    · exact h
  · split
    · split
      · rename_i hd; exact das_in (das_no h) hd
      · exact h
    · exact h
theorem das_from : ∀ (l : List Cl) (s : List It × Nat), DaS s.1 → DaS (l.foldl (fun s c => ((doZ c.k c.d c.t s.1 s.2).L, (doZ c.k c.d c.t s.1 s.2).n)) s).1
  | [], s, h => h
  | c :: l, s, h => by
    rw [List.foldl_cons]
    exact das_from l _ (das_do h _ _ _ _)
theorem das_run (l : List Cl) : DaS (runZ l).1 := das_from l ([], 0) (fun x hx => by cases hx)

/-- Where the item of a number stands, as far as the list has been gone through. -/
def ownF (L : List It) (no : Int) : Nat → Int
  | 0 => -1
  | i + 1 => if (L.getD i default).no = no then (i : Int) else ownF L no i
theorem ownF_bd (L : List It) (no : Int) : ∀ i, -1 ≤ ownF L no i ∧ ownF L no i < (i : Int) ∨ (i = 0 ∧ ownF L no i = -1)
  | 0 => .inr ⟨rfl, rfl⟩
  | i + 1 => by
    have := ownF_bd L no i
    unfold ownF
    split <;> omega
theorem ownF_none {L : List It} {no : Int} (h : ∀ x ∈ L, x.no ≠ no) : ∀ i, i ≤ L.length → ownF L no i = -1
  | 0, _ => rfl
  | i + 1, hi => by
    unfold ownF
    have hm : L.getD i default ∈ L := by
      rw [List.getD_eq_getElem?_getD, List.getElem?_eq_getElem (by omega)]; exact List.getElem_mem _
    rw [if_neg (h _ hm)]
    exact ownF_none h i (by omega)
theorem ownF_at {L : List It} {no : Int} {p : Nat} (hp : (L.getD p default).no = no) (hu : ∀ i, i < L.length → (L.getD i default).no = no → i = p) : ∀ i, i ≤ L.length → ownF L no i = if p < i then (p : Int) else -1
  | 0, _ => by rw [if_neg (Nat.not_lt_zero _)]; rfl
  | i + 1, hi => by
    unfold ownF
    by_cases e : (L.getD i default).no = no
    · have := hu i (by omega) e
      subst this
      rw [if_pos e, if_pos (Nat.lt_succ_self _)]
    · rw [if_neg e, ownF_at hp hu i (by omega)]
      by_cases c : p < i
      · rw [if_pos c, if_pos (by omega)]
      · have : p ≠ i := fun h => e (h ▸ hp)
        rw [if_neg c, if_neg (by omega)]
theorem inI_cut (y : It) : ∀ l : List It, ∃ C D, l = C ++ D ∧ inI y l = C ++ y :: D
  | [] => ⟨[], [], rfl, rfl⟩
  | z :: l => by
    obtain ⟨C, D, h1, h2⟩ := inI_cut y l
    unfold inI
    split
    · exact ⟨z :: C, D, by rw [h1]; rfl, by rw [h2]; rfl⟩
    · exact ⟨[], z :: l, rfl, rfl⟩
theorem getD_mid {A B : List It} {x : It} (i : Nat) : (A ++ x :: B).getD i default = if i < A.length then (A ++ B).getD i default else if i = A.length then x else (A ++ B).getD (i - 1) default := by
  simp only [List.getD_eq_getElem?_getD]
  by_cases h : i < A.length
  · rw [if_pos h, List.getElem?_append_left h, List.getElem?_append_left h]
  · rw [if_neg h, List.getElem?_append_right (by omega)]
    by_cases e : i = A.length
    · rw [if_pos e, e, Nat.sub_self]; rfl
    · rw [if_neg e, List.getElem?_append_right (by omega), show i - A.length = (i - 1 - A.length) + 1 by omega, List.getElem?_cons_succ]
/-- How many others stand ahead of a place; which place of the elder list that is. -/
def rF (c i : Nat) : Nat := if c < i then i - 1 else i
def kF (p r : Nat) : Nat := if r < p then r else r + 1
/-- An item that is moved: where it stood, where it stands, and how all others stand. -/
structure Mov (L L' : List It) (no : Int) (x y : It) (p c : Nat) : Prop where
  len : L'.length = L.length
  pl : p < L.length
  cl : c < L.length
  atp : L.getD p default = x
  atc : L'.getD c default = y
  own : ∀ i, i ≤ L.length → ownF L no i = if p < i then (p : Int) else -1
  ne : ∀ i, i < L.length → i ≠ c → (L'.getD i default).no ≠ no
  eq : ∀ i, i < L.length → i ≠ c → L'.getD i default = L.getD (kF p (rF c i)) default
  back : inI x (noI no L') = L
theorem mov_at {L : List It} {n : Nat} (hs : SrI L) (h : NoS L n) {x : It} (hx : x ∈ L) (d : Int) : ∃ p c, Mov L (inI ⟨d, x.no, x.tag⟩ (noI x.no L)) x.no x ⟨d, x.no, x.tag⟩ p c := by
  obtain ⟨A, B, hL⟩ := List.append_of_mem hx
  have hA : ∀ y ∈ A, y.no ≠ x.no := fun y hy e => by
    have := h.1 y (by rw [hL]; exact List.mem_append_left _ hy) x hx e
    subst this
    have hn := h.2.2
    rw [hL] at hn
    exact (List.nodup_append.1 hn).2.2 y hy y (List.mem_cons_self ..) rfl
  have hB : ∀ y ∈ B, y.no ≠ x.no := fun y hy e => by
    have := h.1 y (by rw [hL]; exact List.mem_append_right _ (List.mem_cons_of_mem _ hy)) x hx e
    subst this
    have hn := h.2.2
    rw [hL] at hn
    exact (List.nodup_cons.1 (List.nodup_append.1 hn).2.1).1 hy
  have hR : noI x.no L = A ++ B := by
    unfold noI
    rw [hL, List.filter_append, List.filter_cons_of_neg (by simp), List.filter_eq_self.2 (fun y hy => by simpa using hA y hy), List.filter_eq_self.2 (fun y hy => by simpa using hB y hy)]
  have hRn : ∀ y ∈ A ++ B, y.no ≠ x.no := fun y hy => (List.mem_append.1 hy).elim (hA y) (hB y)
  obtain ⟨C, D, h1, h2⟩ := inI_cut ⟨d, x.no, x.tag⟩ (A ++ B)
  have hl : L.length = A.length + B.length + 1 := by rw [hL, List.length_append, List.length_cons]; omega
  have hl2 : C.length + D.length = A.length + B.length := by rw [← List.length_append, ← h1, List.length_append]
  have gR : ∀ i, i < A.length + B.length → ((A ++ B).getD i default).no ≠ x.no := fun i hi => hRn _ (by
    rw [List.getD_eq_getElem?_getD, List.getElem?_eq_getElem (by rw [List.length_append]; exact hi)]; exact List.getElem_mem _)
  have gL : ∀ i, i < A.length + B.length → (A ++ B).getD i default = L.getD (kF A.length i) default := fun i hi => by
    unfold kF
    rw [hL, getD_mid]
    by_cases c : i < A.length
    · rw [if_pos c, if_pos c]
    · rw [if_neg c, if_neg (by omega), if_neg (by omega), Nat.add_sub_cancel]
  have gM : ∀ i, (C ++ (⟨d, x.no, x.tag⟩ : It) :: D).getD i default = if i < C.length then (A ++ B).getD i default else if i = C.length then ⟨d, x.no, x.tag⟩ else (A ++ B).getD (i - 1) default := fun i => by
    rw [getD_mid, ← h1]
  have hp : L.getD A.length default = x := by rw [hL, getD_mid, if_neg (Nat.lt_irrefl _), if_pos rfl]
  rw [hR, h2]
  refine ⟨A.length, C.length, by rw [List.length_append, List.length_cons]; omega, by omega, by omega, hp, by rw [gM, if_neg (Nat.lt_irrefl _), if_pos rfl], ?_, fun i hi hc => ?_, fun i hi hc => ?_, ?_⟩
  · refine ownF_at (by rw [hp]) (fun i hi e => ?_)
    rw [hL, getD_mid] at e
    by_cases c : i < A.length
    · rw [if_pos c] at e; exact absurd e (gR i (by omega))
    · rw [if_neg c] at e
      by_cases c2 : i = A.length
      · exact c2
      · rw [if_neg c2] at e; exact absurd e (gR (i - 1) (by omega))
  · rw [gM]
    by_cases c : i < C.length
    · rw [if_pos c]; exact gR i (by omega)
    · rw [if_neg c, if_neg hc]; exact gR (i - 1) (by omega)
  · rw [gM]
    by_cases c : i < C.length
    · rw [if_pos c, show rF C.length i = i by unfold rF; rw [if_neg (by omega)]]; exact gL i (by omega)
    · rw [if_neg c, if_neg hc, show rF C.length i = i - 1 by unfold rF; rw [if_pos (by omega)]]; exact gL (i - 1) (by omega)
  · have hn : noI x.no (C ++ (⟨d, x.no, x.tag⟩ : It) :: D) = A ++ B := by
      unfold noI
      rw [List.filter_append, List.filter_cons_of_neg (by simp), ← List.filter_append, ← h1]
      exact List.filter_eq_self.2 (fun y hy => by simpa using hRn y hy)
    rw [hn, ← hR]
    refine srI_uniq (inI_srt (noI_srt hs) (fun y hy => ((noI_mem _ _ _).1 hy).2)) hs (fun y => ?_)
    rw [inI_mem, noI_mem]
    constructor
    · rintro (rfl | h)
      · exact hx
      · exact h.1
    · intro hy
      by_cases e : y.no = x.no
      · exact .inl (h.1 y hy x hx e)
      · exact .inr ⟨hy, e⟩

end Go.Proofs.Ytkfcaafjnolhgaa

/-
  chattellaw11.AgendaThere: which numbers are there: no program but the law's own calls as functions of the list; an array of bools in memory.
-/
import Derived.Test.YtkfcaafjnolhgaaAhB
namespace Go.Proofs.Ytkfcaafjnolhgaa
open Go.RowKit Go.Lib Go.Maps Go.Sort Go.Shelf
set_option linter.unusedVariables false
set_option linter.unusedSimpArgs false

/-- Is a number there? -/
def thN (L : List It) (j : Nat) : Bool := L.any (fun x => x.no == (j : Int))
theorem thN_iff {L : List It} {j : Nat} : thN L j = true ↔ ∃ x ∈ L, x.no = (j : Int) := by
  unfold thN; simp [List.any_eq_true]
theorem thN_in {L : List It} {x : It} {m : Nat} (hm : x.no = (m : Int)) (j : Nat) : thN (inI x L) j = if j = m then true else thN L j := by
  rw [Bool.eq_iff_iff, thN_iff]
  by_cases h : j = m
  · subst h
    rw [if_pos rfl]
    exact ⟨fun _ => rfl, fun _ => ⟨x, (inI_mem _ _ _).2 (.inl rfl), hm⟩⟩
  · rw [if_neg h, thN_iff]
    constructor
    · rintro ⟨y, hy, e⟩
      rcases (inI_mem _ _ _).1 hy with rfl | hy
      · exact absurd (show j = m by omega) h
      · exact ⟨y, hy, e⟩
    · rintro ⟨y, hy, e⟩
      exact ⟨y, (inI_mem _ _ _).2 (.inr hy), e⟩
theorem thN_no {L : List It} {m : Nat} (j : Nat) : thN (noI (m : Int) L) j = if j = m then false else thN L j := by
  rw [Bool.eq_iff_iff, thN_iff]
  by_cases h : j = m
  · subst h
    rw [if_pos rfl]
    constructor
    · rintro ⟨y, hy, e⟩
      exact absurd e ((noI_mem _ _ _).1 hy).2
    · intro h; cases h
  · rw [if_neg h, thN_iff]
    constructor
    · rintro ⟨y, hy, e⟩
      exact ⟨y, ((noI_mem _ _ _).1 hy).1, e⟩
    · rintro ⟨y, hy, e⟩
      exact ⟨y, (noI_mem _ _ _).2 ⟨hy, by omega⟩, e⟩
/-- No two of one number, all of them below one. -/
def NoS (L : List It) (n : Nat) : Prop := (∀ y ∈ L, ∀ z ∈ L, y.no = z.no → y = z) ∧ (∀ x ∈ L, 0 ≤ x.no ∧ x.no < (n : Int)) ∧ L.Nodup
theorem AgV.nos {w : World} {base a q bm n : Nat} {lv : Value} {L : List It} (h : AgV w base a q bm lv L n) : NoS L n :=
  ⟨h.noeq, h.nb, (List.Pairwise.imp (fun {x y} hb (e : x = y) => bfI_irr y (by rw [e] at hb; exact hb)) h.sr : L.Pairwise (· ≠ ·))⟩
theorem NoS.tail {x : It} {L : List It} {n : Nat} (h : NoS (x :: L) n) : NoS L n :=
  ⟨fun y hy z hz => h.1 y (List.mem_cons_of_mem _ hy) z (List.mem_cons_of_mem _ hz), fun y hy => h.2.1 y (List.mem_cons_of_mem _ hy), (List.nodup_cons.1 h.2.2).2⟩
theorem NoS.head {x : It} {L : List It} {n : Nat} (h : NoS (x :: L) n) : ∀ y ∈ L, y.no ≠ x.no := fun y hy e => by
  have := h.1 y (List.mem_cons_of_mem _ hy) x (List.mem_cons_self ..) e
  subst this
  exact (List.nodup_cons.1 h.2.2).1 hy
theorem thN_tail {x : It} {L : List It} {n m : Nat} (h : NoS (x :: L) n) (hm : x.no = (m : Int)) (j : Nat) : thN L j = if j = m then false else thN (x :: L) j := by
  rw [Bool.eq_iff_iff, thN_iff]
  by_cases e : j = m
  · subst e
    rw [if_pos rfl]
    constructor
    · rintro ⟨y, hy, e⟩
      exact absurd (e.trans hm.symm) (h.head y hy)
    · intro h; cases h
  · rw [if_neg e, thN_iff]
    constructor
    · rintro ⟨y, hy, e'⟩
      exact ⟨y, List.mem_cons_of_mem _ hy, e'⟩
    · rintro ⟨y, hy, e'⟩
      rcases List.mem_cons.1 hy with rfl | hy
      · exact absurd (show j = m by omega) e
      · exact ⟨y, hy, e'⟩
theorem thN_head {x : It} {L : List It} {m : Nat} (hm : x.no = (m : Int)) : thN (x :: L) m = true := thN_iff.2 ⟨x, List.mem_cons_self .., hm⟩
theorem NoS.nat {x : It} {L : List It} {n : Nat} (h : NoS L n) (hx : x ∈ L) : ∃ m : Nat, x.no = (m : Int) ∧ m < n := by
  obtain ⟨h0, h1⟩ := h.2.1 x hx
  exact ⟨x.no.toNat, by omega, by omega⟩
/-- How many are there. -/
def cntN (f : Nat → Bool) : Nat → Nat
  | 0 => 0
  | n + 1 => cntN f n + (if f n = true then 1 else 0)
theorem cntN_le (f : Nat → Bool) : ∀ n, cntN f n ≤ n
  | 0 => Nat.le_refl _
  | n + 1 => by
    have := cntN_le f n
    unfold cntN; split <;> omega
theorem cntN_more {f g : Nat → Bool} {m : Nat} (hf : f m = false) (hg : ∀ j, g j = if j = m then true else f j) : ∀ n, cntN g n = cntN f n + (if m < n then 1 else 0)
  | 0 => rfl
  | n + 1 => by
    have ih := cntN_more hf hg n
    unfold cntN
    rw [ih, hg n]
    by_cases h : n = m
    · subst h
      rw [if_pos rfl, if_pos rfl, if_neg (Nat.lt_irrefl _), if_pos (Nat.lt_succ_self _), hf, if_neg (by decide)]
    · rw [if_neg h]
      by_cases h2 : m < n
      · rw [if_pos h2, if_pos (show m < n + 1 by omega)]; omega
      · rw [if_neg h2, if_neg (show ¬ m < n + 1 by omega)]; omega
theorem cntN_zero : ∀ n, cntN (thN []) n = 0
  | 0 => rfl
  | n + 1 => by unfold cntN; rw [cntN_zero n]; rfl
theorem cntN_len : ∀ {L : List It} {n : Nat}, NoS L n → cntN (thN L) n = L.length
  | [], n, _ => cntN_zero n
  | x :: L, n, h => by
    obtain ⟨m, hm, hlt⟩ := h.nat (List.mem_cons_self ..)
    have hf : thN L m = false := by
      rw [thN_tail h hm m, if_pos rfl]
    rw [cntN_more hf (fun j => by
      rw [thN_tail h hm j]
      by_cases e : j = m
      · subst e; rw [if_pos rfl]; exact thN_head hm
      · rw [if_neg e, if_neg e]) n, cntN_len h.tail, if_pos hlt]
    rfl
/-- What a call does to them. -/
theorem thZ {L : List It} {N : Nat} (h : NoS L N) (k d t : Int) :
    ((doZ k d t L N).e ≠ 0 ∧ (doZ k d t L N).L = L ∧ (doZ k d t L N).n = N) ∨
    (k = 0 ∧ (doZ k d t L N).e = 0 ∧ (doZ k d t L N).x.no = (N : Int) ∧ (doZ k d t L N).n = N + 1 ∧ ∀ j, thN (doZ k d t L N).L j = if j = N then true else thN L j) ∨
    ((k = 1 ∨ k = 2) ∧ (doZ k d t L N).e = 0 ∧ (doZ k d t L N).n = N ∧ ∃ m : Nat, (doZ k d t L N).x.no = (m : Int) ∧ m < N ∧ thN L m = true ∧ ∀ j, thN (doZ k d t L N).L j = if j = m then false else thN L j) ∨
    (k ≠ 0 ∧ k ≠ 1 ∧ k ≠ 2 ∧ (doZ k d t L N).e = 0 ∧ (doZ k d t L N).n = N ∧ ∀ j, thN (doZ k d t L N).L j = thN L j) := by
  unfold doZ
  by_cases c0 : k = 0
  · rw [if_pos c0]
    unfold putZ
    by_cases hd : 0 ≤ d ∧ d ≤ 73048
    · rw [if_pos hd]
      exact .inr (.inl ⟨c0, rfl, rfl, rfl, fun j => thN_in rfl j⟩)
    · rw [if_neg hd]
      exact .inl ⟨show (18 : Int) ≠ 0 by decide, rfl, rfl⟩
  rw [if_neg c0]
  by_cases c1 : k = 1
  · rw [if_pos c1]
    unfold takeZ
    cases L with
    | nil => exact .inl ⟨show (16 : Int) ≠ 0 by decide, rfl, rfl⟩
    | cons x M =>
      dsimp only
      by_cases hd : x.d ≤ d
      · rw [if_pos hd]
        obtain ⟨m, hm, hlt⟩ := h.nat (List.mem_cons_self ..)
        exact .inr (.inr (.inl ⟨.inl c1, rfl, rfl, m, hm, hlt, thN_head hm, fun j => thN_tail h hm j⟩))
      · rw [if_neg hd]
        exact .inl ⟨show (16 : Int) ≠ 0 by decide, rfl, rfl⟩
  rw [if_neg c1]
  by_cases c2 : k = 2
  · rw [if_pos c2]
    unfold dropZ
    rcases find_no (L := L) (no := t) with ⟨x, e, hx, hn⟩ | ⟨e, hx⟩
    · rw [e]
      obtain ⟨m, hm, hlt⟩ := h.nat hx
      refine .inr (.inr (.inl ⟨.inr c2, rfl, rfl, m, hm, hlt, thN_iff.2 ⟨x, hx, hm⟩, fun j => ?_⟩))
      rw [← hn, hm]
      exact thN_no j
    · rw [e]
      exact .inl ⟨show (16 : Int) ≠ 0 by decide, rfl, rfl⟩
  rw [if_neg c2]
  unfold moveZ
  rcases find_no (L := L) (no := t) with ⟨x, e, hx, hn⟩ | ⟨e, hx⟩
  · rw [e]
    dsimp only
    by_cases hd : 0 ≤ d ∧ d ≤ 73048
    · rw [if_pos hd]
      obtain ⟨m, hm, hlt⟩ := h.nat hx
      refine .inr (.inr (.inr ⟨c0, c1, c2, rfl, rfl, fun j => ?_⟩))
      rw [← hn, hm, thN_in (m := m) rfl j, thN_no j]
      by_cases e : j = m
      · subst e; rw [if_pos rfl]; exact (thN_iff.2 ⟨x, hx, hm⟩).symm
      · rw [if_neg e, if_neg e]
    · rw [if_neg hd]
      exact .inl ⟨show (18 : Int) ≠ 0 by decide, rfl, rfl⟩
  · rw [e]
    exact .inl ⟨show (16 : Int) ≠ 0 by decide, rfl, rfl⟩
/-- An array of bools in memory. -/
def ThV (w : World) (T : Nat) (f : Nat → Bool) : Prop := ∀ j, j < 61 → w.cell? ⟨T, j, none⟩ = some (.bool (f j)) ∧ w.frozen? ⟨T, j, none⟩ = false
theorem ThV.lt {w : World} {T : Nat} {f : Nat → Bool} (h : ThV w T f) : T < w.heap.size := ltF (h 0 (by decide)).1
theorem ThV.off {w w' : World} {T : Nat} {f : Nat → Bool} {F : Nat → Prop} (h : ThV w T f) (ho : Off F w w') (hn : ¬ F T) : ThV w' T f := fun j hj =>
  ⟨ho.cell (h j hj).1 hn, (ho.frozen h.lt hn).trans (h j hj).2⟩
theorem ThV.keep {w w' : World} {T : Nat} {f : Nat → Bool} (h : ThV w T f) (hb : Below w.heap.size w w') : ThV w' T f := h.off (Off.of (F := fun _ => False) hb) (fun c => c)
theorem ThV.set {w : World} {T m : Nat} {f g : Nat → Bool} {b : Bool} (h : ThV w T f) (hm : m < 61) (hg : ∀ j, g j = if j = m then b else f j) : ThV (w.setCell ⟨T, m, none⟩ (.bool b)) T g := fun j hj => by
  refine ⟨?_, by rw [World.frozen?_setCell]; exact (h j hj).2⟩
  rw [hg j]
  by_cases e : j = m
  · subst e; rw [if_pos rfl]; exact cell_same (h j hj).1
  · rw [if_neg e]; exact (cell_other (addr_ne_off (Ne.symm e))).trans (h j hj).1
theorem ThV.congr {w : World} {T : Nat} {f g : Nat → Bool} (h : ThV w T f) (hg : ∀ j, g j = f j) : ThV w T g := fun j hj => by rw [hg j]; exact h j hj

end Go.Proofs.Ytkfcaafjnolhgaa

/-
  chattellaw11.does over an agenda: what it does, as a function of the list.
-/
import Derived.Test.YtkfcaafjnolhgaaAgZ
namespace Go.Proofs.Ytkfcaafjnolhgaa
open Go.RowKit Go.Lib Go.Maps Go.Sort Go.Shelf
set_option linter.unusedVariables false
set_option linter.unusedSimpArgs false

/-- What a call does: the item that it answers, its error, the items and how many were put behind it. -/
structure Dz where
  x : It
  e : Int
  L : List It
  n : Nat
def zI : It := ⟨0, 0, 0⟩
def putZ (d t : Int) (L : List It) (n : Nat) : Dz := if 0 ≤ d ∧ d ≤ 73048 then ⟨⟨0, n, 0⟩, 0, inI ⟨d, n, t⟩ L, n + 1⟩ else ⟨zI, 18, L, n⟩
def takeZ (d : Int) (L : List It) (n : Nat) : Dz := match L with
  | [] => ⟨zI, 16, [], n⟩
  | x :: M => if x.d ≤ d then ⟨x, 0, M, n⟩ else ⟨zI, 16, x :: M, n⟩
def dropZ (no : Int) (L : List It) (n : Nat) : Dz := match L.find? (fun x => x.no = no) with
  | some x => ⟨x, 0, noI no L, n⟩
  | none => ⟨zI, 16, L, n⟩
def moveZ (no d : Int) (L : List It) (n : Nat) : Dz := match L.find? (fun x => x.no = no) with
  | some x => if 0 ≤ d ∧ d ≤ 73048 then ⟨zI, 0, inI ⟨d, no, x.tag⟩ (noI no L), n⟩ else ⟨zI, 18, L, n⟩
  | none => ⟨zI, 16, L, n⟩
def doZ (k d t : Int) (L : List It) (n : Nat) : Dz := if k = 0 then putZ d t L n else if k = 1 then takeZ d L n else if k = 2 then dropZ t L n else moveZ t d L n
theorem zIt_eq : zIt = itV zI := rfl
theorem find_no {L : List It} {no : Int} : (∃ x, L.find? (fun x => x.no = no) = some x ∧ x ∈ L ∧ x.no = no) ∨ (L.find? (fun x => x.no = no) = none ∧ ∀ x ∈ L, x.no ≠ no) := by
  cases h : L.find? (fun x => x.no = no) with
  | some x => exact .inl ⟨x, rfl, List.mem_of_find?_eq_some h, by simpa using List.find?_some h⟩
  | none => exact .inr ⟨rfl, fun x hx e => by have := List.find?_eq_none.1 h x hx; simp [e] at this⟩
set_option maxRecDepth 100000 in
theorem does_any (w : World) {base a q bm n : Nat} {lv : Value} {L : List It} (h : AgV w base a q bm lv L n) (hn : n < 1000) (hl : L.length < 1000) (k d t : Int) (ht : I64 t) :
    Calls Try.prog 11 #[.pointer (some ⟨a, 0, none⟩), .agg #[.int .i64 k, .int .i64 d, .int .i64 t]] w fun e w' => e = .returned (.tuple #[itV (doZ k d t L n).x, .int .i64 (doZ k d t L n).e]) ∧ Aft w base a q bm lv (doZ k d t L n).L (doZ k d t L n).n w' := by
  unfold doZ
  by_cases c0 : k = 0
  · subst c0
    rw [if_pos rfl]
    unfold putZ
    by_cases hd : 0 ≤ d ∧ d ≤ 73048
    · rw [if_pos hd]
      exact does_put w h d t n 0 (fun W hW => aput_ok W hW hn hl d t hd)
    · rw [if_neg hd]
      exact does_put w h d t 0 18 (fun W hW => (aput_no W a d t hd).mono (by rintro e w' ⟨h1, rfl⟩; exact ⟨h1, hW.afs⟩))
  rw [if_neg c0]
  by_cases c1 : k = 1
  · subst c1
    rw [if_pos rfl]
    unfold takeZ
    cases L with
    | nil => exact does_none w h d t zI (fun W hW => (atake_no W hW d (fun x M c => by cases c)).mono (by rintro e w' ⟨h1, h2⟩; exact ⟨h1, hW.aft h2⟩))
    | cons x M =>
      dsimp only
      by_cases hd : x.d ≤ d
      · rw [if_pos hd]
        exact does_take w h d t x (fun W hW => atake_yes W hW (by omega) d hd)
      · rw [if_neg hd]
        exact does_none w h d t zI (fun W hW => (atake_no W hW d (fun y M' c => by cases c; omega)).mono (by rintro e w' ⟨h1, h2⟩; exact ⟨h1, hW.aft h2⟩))
  rw [if_neg c1]
  by_cases c2 : k = 2
  · subst c2
    rw [if_pos rfl]
    unfold dropZ
    rcases find_no (L := L) (no := t) with ⟨x, e, hx, rfl⟩ | ⟨e, hx⟩
    · rw [e]
      exact does_drop w h d x.no 0 x (fun W hW => adrop_any W hW (by omega) hx ht)
    · rw [e]
      exact does_drop w h d t 16 zI (fun W hW => (adrop_no W hW t ht hx).mono (by rintro e w' ⟨h1, h2⟩; exact ⟨h1, hW.aft h2⟩))
  rw [if_neg c2]
  unfold moveZ
  rcases find_no (L := L) (no := t) with ⟨x, e, hx, rfl⟩ | ⟨e, hx⟩
  · rw [e]
    dsimp only
    by_cases hd : 0 ≤ d ∧ d ≤ 73048
    · rw [if_pos hd]
      exact does_move w h k d x.no 0 c0 c1 c2 (fun W hW => (amove_ok W hW (by omega) hx ht d hd).mono (by rintro e w' ⟨h1, h2, h3⟩; exact ⟨h1, lv, h2, h3, fun k c => .inl c⟩))
    · rw [if_neg hd]
      exact does_move w h k d x.no 18 c0 c1 c2 (fun W hW => (amove_day W hW hx ht d hd).mono (by rintro e w' ⟨h1, rfl⟩; exact ⟨h1, hW.afs⟩))
  · rw [e]
    exact does_move w h k d t 16 c0 c1 c2 (fun W hW => (amove_no W hW t d ht hx).mono (by rintro e w' ⟨h1, rfl⟩; exact ⟨h1, hW.afs⟩))
/-- How many there may be behind a call. -/
theorem doZ_n (k d t : Int) (L : List It) (n : Nat) : (doZ k d t L n).n ≤ n + 1 := by
  unfold doZ putZ takeZ dropZ moveZ
  repeat' split
  all_goals (dsimp only; omega)
theorem inI_len (x : It) (l : List It) : (inI x l).length = l.length + 1 := by
  have := (inI_perm x l).length_eq
  simpa using this
theorem doZ_l (k d t : Int) (L : List It) (n : Nat) : (doZ k d t L n).L.length ≤ L.length + 1 := by
  have h := noI_len t L
  unfold doZ putZ takeZ dropZ moveZ
  repeat' split
  all_goals dsimp only
  all_goals (try rw [inI_len])
  all_goals (try simp only [List.length_cons, List.length_nil] at *)
  all_goals omega

end Go.Proofs.Ytkfcaafjnolhgaa

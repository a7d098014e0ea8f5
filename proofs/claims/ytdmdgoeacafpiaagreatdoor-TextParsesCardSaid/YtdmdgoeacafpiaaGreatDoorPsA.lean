/-
  Texts as tokens, and which contract a row of tokens is: no program.
-/
import Derived.Test.YtdmdgoeacafpiaaGreatDoorTrm
import Derived.Test.YtdmdgoeacafpiaaGreatDoorTxt
namespace Go.Proofs.YtdmdgoeacafpiaaGreatDoor
open Go.Lib
set_option linter.unusedVariables false
set_option linter.unusedSimpArgs false

/-- A byte that stands between tokens. -/
def gapB (c : UInt8) : Bool := c == 32 || c == 10
/-- A byte that is a token by itself. -/
def mkB (c : UInt8) : Bool := c == 40 || c == 41 || c == 44
def wdB (c : UInt8) : Bool := !gapB c && !mkB c
/-- A token: where it begins, and it. -/
abbrev Tk := Nat × List UInt8
def glueT (a : Nat) (c : UInt8) (g : Bool) : List Tk → List Tk
  | [] => [(a, [c])]
  | (x, w) :: r => if g then (a, c :: w) :: r else (a, [c]) :: (x, w) :: r
def startsW : List UInt8 → Bool
  | [] => false
  | d :: _ => wdB d
/-- A text's tokens. -/
def toks (a : Nat) : List UInt8 → List Tk
  | [] => []
  | c :: r => if gapB c then toks (a + 1) r else if mkB c then (a, [c]) :: toks (a + 1) r else glueT a c (startsW r) (toks (a + 1) r)
def wl (l : List UInt8) : Nat := (l.takeWhile wdB).length
theorem toks_gap {a : Nat} {c : UInt8} {r : List UInt8} (h : gapB c = true) : toks a (c :: r) = toks (a + 1) r := by rw [toks, if_pos h]
theorem toks_mark {a : Nat} {c : UInt8} {r : List UInt8} (h : gapB c = false) (h2 : mkB c = true) : toks a (c :: r) = (a, [c]) :: toks (a + 1) r := by rw [toks, if_neg (by simp [h]), if_pos h2]
theorem wdB_iff {c : UInt8} : wdB c = true ↔ gapB c = false ∧ mkB c = false := by unfold wdB; simp
theorem toks_word : ∀ (r : List UInt8) (a : Nat) (c : UInt8), wdB c = true → toks a (c :: r) = (a, (c :: r).takeWhile wdB) :: toks (a + wl (c :: r)) ((c :: r).drop (wl (c :: r)))
  | [], a, c, h => by
    obtain ⟨h1, h2⟩ := wdB_iff.1 h
    rw [toks, if_neg (by simp [h1]), if_neg (by simp [h2])]
    simp [toks, glueT, wl, List.takeWhile_cons, h]
  | d :: r, a, c, h => by
    obtain ⟨h1, h2⟩ := wdB_iff.1 h
    rw [toks, if_neg (by simp [h1]), if_neg (by simp [h2])]
    have ec : (c :: d :: r).takeWhile wdB = c :: (d :: r).takeWhile wdB := by rw [List.takeWhile_cons, if_pos h]
    have el : wl (c :: d :: r) = wl (d :: r) + 1 := by unfold wl; rw [ec]; rfl
    rw [ec, el, List.drop_succ_cons]
    show glueT a c (wdB d) _ = _
    by_cases hd : wdB d = true
    · rw [hd, toks_word r (a + 1) d hd]
      show (a, c :: (d :: r).takeWhile wdB) :: _ = _
      rw [show a + (wl (d :: r) + 1) = a + 1 + wl (d :: r) by omega]
    · have hd' : wdB d = false := by simpa using hd
      have e0 : (d :: r).takeWhile wdB = [] := by rw [List.takeWhile_cons, if_neg hd]
      have e1 : wl (d :: r) = 0 := by unfold wl; rw [e0]; rfl
      rw [hd', e0, e1]
      show glueT a c false (toks (a + 1) (d :: r)) = (a, [c]) :: toks (a + 1) (d :: r)
      cases toks (a + 1) (d :: r) with
      | nil => rfl
      | cons x y => rfl
/-- How many bytes of a gap stand at a text's beginning. -/
def gl (l : List UInt8) : Nat := (l.takeWhile gapB).length
theorem toks_skip : ∀ (l : List UInt8) (a : Nat), toks a l = toks (a + gl l) (l.drop (gl l))
  | [], a => rfl
  | c :: r, a => by
    by_cases h : gapB c = true
    · have e : gl (c :: r) = gl r + 1 := by unfold gl; rw [List.takeWhile_cons, if_pos h]; rfl
      rw [toks_gap h, e, List.drop_succ_cons, toks_skip r (a + 1), show a + (gl r + 1) = a + 1 + gl r by omega]
    · have e : gl (c :: r) = 0 := by unfold gl; rw [List.takeWhile_cons, if_neg h]; rfl
      rw [e]; rfl
/-- The tokens' texts do not hang on where they stand. -/
theorem toks_at : ∀ (l : List UInt8) (a b : Nat), (toks a l).map Prod.snd = (toks b l).map Prod.snd ∧ (toks (a + b) l) = (toks a l).map (fun x => (x.1 + b, x.2))
  | [], _, _ => ⟨rfl, rfl⟩
  | c :: r, a, b => by
    have ih1 := toks_at r (a + 1) (b + 1)
    have ih2 := toks_at r (a + 1) b
    rw [show a + 1 + b = a + b + 1 by omega] at ih2
    by_cases h : gapB c = true
    · rw [toks_gap h, toks_gap h, toks_gap h]; exact ⟨ih1.1, ih2.2⟩
    · have h' : gapB c = false := by simpa using h
      by_cases h2 : mkB c = true
      · rw [toks_mark h' h2, toks_mark h' h2, toks_mark h' h2]
        exact ⟨by rw [List.map_cons, List.map_cons, ih1.1], by rw [ih2.2]; rfl⟩
      · rw [toks, toks, toks, if_neg h, if_neg h2, if_neg h, if_neg h2, if_neg h, if_neg h2]
        rw [ih2.2]
        have e1 := ih1.1
        generalize startsW r = g
        generalize toks (a + 1) r = x at e1 ⊢
        generalize toks (b + 1) r = y at e1 ⊢
        constructor
        · cases x with
          | nil =>
            cases y with
            | nil => rfl
            | cons q z => cases e1
          | cons p x =>
            cases y with
            | nil => cases e1
            | cons q z =>
              rw [List.map_cons, List.map_cons] at e1
              injection e1 with e2 e3
              obtain ⟨p1, p2⟩ := p
              obtain ⟨q1, q2⟩ := q
              dsimp only at e2
              subst e2
              cases g <;> simp [glueT, e3]
        · cases x with
          | nil => rfl
          | cons p x =>
            obtain ⟨p1, p2⟩ := p
            cases g <;> simp [glueT]
theorem tok_ne : ∀ (l : List UInt8) (a : Nat), ∀ t ∈ toks a l, t.2 ≠ [] ∧ t.2.length ≤ l.length ∧ a ≤ t.1 ∧ t.1 + t.2.length ≤ a + l.length
  | [], a, t, h => by cases h
  | c :: r, a, t, h => by
    have ih := tok_ne r (a + 1)
    by_cases hg : gapB c = true
    · rw [toks_gap hg] at h
      have := ih t h
      rw [List.length_cons]; exact ⟨this.1, by omega, by omega, by omega⟩
    · have h' : gapB c = false := by simpa using hg
      by_cases h2 : mkB c = true
      · rw [toks_mark h' h2] at h
        rcases List.mem_cons.1 h with rfl | h
        · simp
        · have := ih t h
          rw [List.length_cons]; exact ⟨this.1, by omega, by omega, by omega⟩
      · rw [toks, if_neg hg, if_neg h2] at h
        generalize startsW r = g at h
        generalize toks (a + 1) r = x at h ih
        cases x with
        | nil => rw [glueT, List.mem_singleton] at h; subst h; simp
        | cons p x =>
          obtain ⟨p1, p2⟩ := p
          have ihp := ih (p1, p2) (by simp)
          dsimp only at ihp
          cases g with
          | true =>
            rw [glueT, if_pos rfl] at h
            rcases List.mem_cons.1 h with rfl | h
            · simp; omega
            · have := ih t (by simp [h])
              rw [List.length_cons]; exact ⟨this.1, by omega, by omega, by omega⟩
          | false =>
            rw [glueT, if_neg (by decide)] at h
            rcases List.mem_cons.1 h with rfl | h
            · simp
            · have := ih t (by simpa using h)
              rw [List.length_cons]; exact ⟨this.1, by omega, by omega, by omega⟩
theorem toks_len : ∀ (l : List UInt8) (a : Nat), (toks a l).length ≤ l.length
  | [], a => Nat.le_refl _
  | c :: r, a => by
    have ih := toks_len r (a + 1)
    by_cases hg : gapB c = true
    · rw [toks_gap hg, List.length_cons]; omega
    · have h' : gapB c = false := by simpa using hg
      by_cases h2 : mkB c = true
      · rw [toks_mark h' h2, List.length_cons, List.length_cons]; omega
      · rw [toks, if_neg hg, if_neg h2]
        generalize startsW r = g
        generalize toks (a + 1) r = x at ih
        cases x with
        | nil => simp [glueT]
        | cons p x =>
          obtain ⟨p1, p2⟩ := p
          cases g <;> simp [glueT] at ih ⊢ <;> omega

/-- The ops' words. -/
def wdT : List (List UInt8) := [[], [], [102, 105, 120], [110, 101, 103], [112, 108, 117, 115], [109, 105, 110, 117, 115], [116, 105, 109, 101, 115], [108, 101, 97, 115, 116], [109, 111, 115, 116], [122, 101, 114, 111], [111, 110, 101], [103, 105, 118, 101], [97, 110, 100], [115, 99, 97, 108, 101], [119, 104, 101, 110], [99, 111, 110, 100], [111, 114], [97, 110, 121]]
def wdN (k : Nat) : List UInt8 := wdT.getD k []
/-- What fields stand behind a word: 6 a currency's name, 7 a key, 8 a day, 9 a day up to which. -/
def fdT : List (List Nat) := [[], [], [7], [], [], [], [], [], [], [], [6], [], [], [], [8], [], [7], [7, 9]]
def fdN (k : Nat) : List Nat := fdT.getD k []
/-- What comes behind a term's word: 3 a bracket, 1, 2 terms, 4 a comma, 5 a bracket. -/
def bhK : List Nat → Nat → List Nat
  | [], m => if m = 4 then [5] else []
  | s :: r, m => m :: s :: bhK r 4
def bhN (k : Nat) : List Nat := fdN k ++ bhK (kdT.getD k []) 3
/-- The op of a sort that has a word. -/
def findW (w : List UInt8) (s : Nat) : Nat → Option Nat
  | 0 => none
  | k + 1 => match findW w s k with
    | some j => some j
    | none => if wdN k = w ∧ mkT.getD k 0 = s then some k else none

end Go.Proofs.YtdmdgoeacafpiaaGreatDoor

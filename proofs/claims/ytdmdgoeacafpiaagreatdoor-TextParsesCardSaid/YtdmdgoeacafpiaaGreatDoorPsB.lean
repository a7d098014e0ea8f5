/-
  Which contract a row of tokens is: a machine that takes one token after the other. No program but the tables.
-/
import Derived.Test.YtdmdgoeacafpiaaGreatDoorPsA
import Derived.Test.YtdmdgoeacafpiaaGreatDoorTxt
import Derived.Test.YtdmdgoeacafpiaaGreatDoorCshB
import Derived.Test.YtdmdgoeacafpiaaGreatDoorDyM
namespace Go.Proofs.YtdmdgoeacafpiaaGreatDoor
open Go.Lib
set_option linter.unusedVariables false
set_option linter.unusedSimpArgs false

/-- The ratio of a text. -/
def ratW (w : List UInt8) : Option (Int × Int) := match readR w with
  | some (n, d) => if chkE n d = 0 ∧ txt n d = w then some (n, d) else none
  | none => none
theorem ratW_txt {n d : Int} (hn : I64 n) (hd : I64 d) (hk : chkE n d = 0) : ratW (txt n d) = some (n, d) := by
  unfold ratW
  rw [readR_txt hn hd]
  simp [hk]
theorem ratW_some {w : List UInt8} {n d : Int} (h : ratW w = some (n, d)) : I64 n ∧ I64 d ∧ chkE n d = 0 ∧ w = txt n d := by
  unfold ratW at h
  cases hr : readR w with
  | none => rw [hr] at h; cases h
  | some p =>
    obtain ⟨x, y⟩ := p
    rw [hr] at h
    dsimp only at h
    split at h
    · rename_i hc
      injection h with h
      injection h with h1 h2
      subst h1 h2
      exact ⟨(readR_bd hr).1, (readR_bd hr).2, hc.1, hc.2.symm⟩
    · cases h
theorem ratW_none {w : List UInt8} (h : ratW w = none) : ∀ n d, I64 n → I64 d → chkE n d = 0 → w ≠ txt n d := by
  intro n d hn hd hk e
  rw [e, ratW_txt hn hd hk] at h
  cases h
/-- A key's text: decimal digits, no 0 ahead of others. -/
def cntK (l : List UInt8) : Bool := l == [48] || (!(hasPrefix l [48]) && l.all isDg)
/-- The key of a text, and its error. -/
def keyW (w : List UInt8) : Nat × Int := if cntK w = true then (match atoiAll w with | .ok v => if 63 < v then (10, 0) else (0, v) | _ => (10, 0)) else (13, 0)
/-- The day of a text, and its error. -/
def dayW (w : List UInt8) : Int × Int := if (parN w).2 = 18 then (0, 10) else parN w

/-- The machine: nodes that have come, how many brackets are open, what has to come. -/
structure Mc where
  N : List Nd
  o : Int
  D : List Nat
def updL (f : Nd → Nd) : List Nd → List Nd
  | [] => []
  | [n] => [f n]
  | n :: m :: r => n :: updL f (m :: r)
theorem updL_app (f : Nd → Nd) : ∀ (l : List Nd) (n : Nd), updL f (l ++ [n]) = l ++ [f n]
  | [], n => rfl
  | [a], n => rfl
  | a :: b :: r, n => by
    have := updL_app f (b :: r) n
    show a :: updL f ((b :: r) ++ [n]) = _
    rw [this]; rfl
theorem updL_len (f : Nd → Nd) : ∀ (l : List Nd), (updL f l).length = l.length
  | [] => rfl
  | [a] => rfl
  | a :: b :: r => by
    have := updL_len f (b :: r)
    show (updL f (b :: r)).length + 1 = _
    rw [this]; rfl
def begM (n : Nd) (k : Nat) (m : Mc) : Nat × Mc := if 64 ≤ m.N.length ∨ 12 ≤ m.o then (15, m) else (0, ⟨m.N ++ [n], m.o, bhN k ++ m.D⟩)
def wordM (s : Nat) (w : List UInt8) (m : Mc) : Nat × Mc := match findW w s 18 with
  | some k => begM ⟨k, 0, 0, 0, 0⟩ k m
  | none => (13, m)
def obsM (w : List UInt8) (m : Mc) : Nat × Mc := match ratW w with
  | some (x, y) => begM ⟨1, 0, 0, x, y⟩ 1 m
  | none => wordM 1 w m
def setA (v : Int) (n : Nd) : Nd := { n with a := v }
def setB (v : Int) (n : Nd) : Nd := { n with b := v }
def onlyM (c : UInt8) (w : List UInt8) : Nat := if w = [c] then 0 else 13
def nameM (w : List UInt8) (m : Mc) : Nat × Mc := match findK w 8 with
  | some k => (0, ⟨updL (setA k) m.N, m.o, m.D⟩)
  | none => (13, m)
def keyM (w : List UInt8) (m : Mc) : Nat × Mc := if (keyW w).1 = 0 then (0, ⟨updL (setA (keyW w).2) m.N, m.o, m.D⟩) else ((keyW w).1, m)
def dayM (w : List UInt8) (m : Mc) : Nat × Mc := ((dayW w).2.toNat, ⟨updL (setA (dayW w).1) m.N, m.o, m.D⟩)
def untM (w : List UInt8) (m : Mc) : Nat × Mc := ((dayW w).2.toNat, ⟨updL (setB (dayW w).1) m.N, m.o, m.D⟩)
/-- A token that has to be of a part. -/
def partM (p : Nat) (w : List UInt8) (m : Mc) : Nat × Mc :=
  match p with
  | 1 => obsM w m
  | 2 => wordM 2 w m
  | 3 => (onlyM 40 w, ⟨m.N, m.o + 1, m.D⟩)
  | 4 => (onlyM 44 w, m)
  | 5 => (onlyM 41 w, ⟨m.N, m.o - 1, m.D⟩)
  | 6 => nameM w m
  | 7 => keyM w m
  | 8 => dayM w m
  | 9 => untM w m
  | _ => (13, m)
def takeM (m : Mc) (w : List UInt8) : Nat × Mc := match m.D with
  | [] => (13, m)
  | p :: D => partM p w ⟨m.N, m.o, D⟩
/-- A row of tokens: how many were right; the error of the next one; what has come. -/
def runM : Mc → List (List UInt8) → Nat × Nat × Mc
  | m, [] => (0, 0, m)
  | m, w :: r => if (takeM m w).1 = 0 then ((runM (takeM m w).2 r).1 + 1, (runM (takeM m w).2 r).2) else (0, takeM m w)
def m0 : Mc := ⟨[], 0, [2]⟩
/-- What Parse answers: the nodes, where it is wrong, and how. -/
def parT (l : List UInt8) : List Nd × Nat × Nat :=
  let T := toks 0 l
  let R := runM m0 (T.map Prod.snd)
  if R.2.1 ≠ 0 then ([], (T.getD R.1 default).1, R.2.1) else if R.2.2.D ≠ [] then ([], l.length, 13) else (R.2.2.N, 0, 0)

theorem runM_ok {m : Mc} {w : List UInt8} {r : List (List UInt8)} (h : (takeM m w).1 = 0) : runM m (w :: r) = ((runM (takeM m w).2 r).1 + 1, (runM (takeM m w).2 r).2) := by rw [runM, if_pos h]
theorem runM_no {m : Mc} {w : List UInt8} {r : List (List UInt8)} (h : (takeM m w).1 ≠ 0) : runM m (w :: r) = (0, takeM m w) := by rw [runM, if_neg h]
theorem runM_app : ∀ (u v : List (List UInt8)) (m : Mc), (runM m u).2.1 = 0 → runM m (u ++ v) = ((runM m u).1 + (runM (runM m u).2.2 v).1, (runM (runM m u).2.2 v).2) ∧ (runM m u).1 = u.length
  | [], v, m, _ => by simp [runM]
  | w :: u, v, m, h => by
    by_cases c : (takeM m w).1 = 0
    · rw [runM_ok c] at h ⊢
      have ih := runM_app u v _ h
      rw [List.cons_append, runM_ok c, ih.1]
      simp [ih.2]; omega
    · rw [runM_no c] at h
      exact absurd h c
theorem runM_fail : ∀ (u v : List (List UInt8)) (m : Mc), (runM m u).2.1 ≠ 0 → runM m (u ++ v) = runM m u ∧ (runM m u).1 < u.length
  | [], v, m, h => absurd rfl h
  | w :: u, v, m, h => by
    by_cases c : (takeM m w).1 = 0
    · rw [runM_ok c] at h
      have ih := runM_fail u v _ h
      rw [List.cons_append, runM_ok c, runM_ok c, ih.1]
      exact ⟨rfl, by simp; exact ih.2⟩
    · rw [List.cons_append, runM_no c, runM_no c]
      exact ⟨rfl, by simp⟩
/-- One token more. -/
theorem runM_snoc {u : List (List UInt8)} {w : List UInt8} {m : Mc} (h : (runM m u).2.1 = 0) : runM m (u ++ [w]) = if (takeM (runM m u).2.2 w).1 = 0 then (u.length + 1, takeM (runM m u).2.2 w) else (u.length, takeM (runM m u).2.2 w) := by
  have := runM_app u [w] m h
  rw [this.1, this.2]
  by_cases c : (takeM (runM m u).2.2 w).1 = 0
  · rw [runM_ok c, if_pos c]
    show _ = (_, (takeM (runM m u).2.2 w).1, (takeM (runM m u).2.2 w).2)
    rw [c]; rfl
  · rw [runM_no c, if_neg c]; rfl

end Go.Proofs.YtdmdgoeacafpiaaGreatDoor

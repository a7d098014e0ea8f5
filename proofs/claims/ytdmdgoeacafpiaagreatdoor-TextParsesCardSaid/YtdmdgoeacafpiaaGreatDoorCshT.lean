/-
  strings.Trim at a set of ASCII bytes; decimal digits.
-/
import Derived.Test.YtdmdgoeacafpiaaGreatDoorCshB
import Derived.Test.YtdmdgoeacafpiaaGreatDoorTxt
import Derived.Shelf.Strings.SlTrimAscii
namespace Go.Proofs.YtdmdgoeacafpiaaGreatDoor
open Go.RowKit Go.Lib
set_option linter.unusedVariables false

/-- The bytes of decimal digits. -/
def digs10 : List UInt8 := [48, 49, 50, 51, 52, 53, 54, 55, 56, 57]
theorem boolTab : (Tryz.prog.info? 162).map (fun i => (i.zero, i.size)) = some (some (.agg (Array.replicate 256 (.bool false))), 256) := by kernel_rfl
theorem trimC (l cs : List UInt8) (w : World) (hl : l.length ≤ 3000) (hc : cs.length ≤ 100) (ha : cs.all (fun b => decide (b.toNat < 128)) = true) :
    Calls Tryz.prog 96 #[.string ⟨l.toArray⟩, .string ⟨cs.toArray⟩] w fun e w' => e = .returned (.string ⟨(Lib.trimS l cs).toArray⟩) ∧ Below w.heap.size w w' :=
  Any.strings_Trim_laid Tryz.lays160 boolTab ⟨l.toArray⟩ ⟨cs.toArray⟩ w (by show l.toArray.size ≤ _; simp; omega) (by show cs.toArray.size < _; simp; omega) (ascii_of_all ha)

theorem dw_head {p : UInt8 → Bool} : ∀ {l r : List UInt8} {y : UInt8}, l.dropWhile p = y :: r → p y = false
  | [], _, _, h => by cases h
  | x :: l, r, y, h => by
    rw [List.dropWhile_cons] at h
    split at h
    · exact dw_head h
    · rename_i hx
      injection h with h1 h2
      subst h1; simpa using hx
theorem dw_nil {p : UInt8 → Bool} : ∀ {l : List UInt8}, l.dropWhile p = [] ↔ ∀ x ∈ l, p x = true
  | [] => by simp
  | x :: l => by
    rw [List.dropWhile_cons]
    split
    · rename_i hx
      rw [dw_nil]; simp [hx]
    · rename_i hx
      simp [hx]
theorem trimS_nil {l cs : List UInt8} : Lib.trimS l cs = [] ↔ ∀ x ∈ l, cs.contains x = true := by
  unfold Lib.trimS Lib.trimLeftS Lib.trimRightS
  rw [dw_nil]
  constructor
  · intro h
    cases e : l.reverse.dropWhile (cs.contains ·) with
    | nil => 
      have := (dw_nil (p := (cs.contains ·))).1 e
      intro x hx
      exact this x (by simpa using hx)
    | cons y r =>
      have h1 := dw_head e
      have h2 := h y (by rw [e]; simp)
      rw [h1] at h2; cases h2
  · intro h
    rw [(dw_nil (p := (cs.contains ·))).2 (fun x hx => h x (by simpa using hx))]
    intro x hx
    simp at hx
set_option maxRecDepth 100000 in
theorem digs_iff (c : UInt8) : digs10.contains c = isDg c := by
  have h : ∀ n : Fin 256, digs10.contains (UInt8.ofNat n.val) = isDg (UInt8.ofNat n.val) := by decide
  have := h ⟨c.toNat, c.toNat_lt⟩
  simpa using this
theorem one_iff (c d : UInt8) : [d].contains c = (c == d) := Lib.contains_one d c
theorem all_digs {l : List UInt8} : Lib.trimS l digs10 = [] ↔ l.all isDg = true := by
  rw [trimS_nil, List.all_eq_true]
  exact ⟨fun h x hx => by rw [← digs_iff]; exact h x hx, fun h x hx => by rw [digs_iff]; exact h x hx⟩

theorem findK_lt {l : List UInt8} {k : Nat} : ∀ {m}, findK l m = some k → k < m
  | 0, h => by cases h
  | m + 1, h => by
    unfold findK at h
    split at h
    · rename_i j hj
      injection h with h
      subst h
      exact Nat.lt_succ_of_lt (findK_lt hj)
    · split at h
      · injection h with h; omega
      · cases h
end Go.Proofs.YtdmdgoeacafpiaaGreatDoor

/-
  A node over rows that are terms: which term it is, and what it is as a number (no program).
-/
import Derived.Test.YtjafbfepdmgjnaaGreatDoorVlH
import Derived.Test.YtjafbfepdmgjnaaGreatDoorTrm
import Derived.Test.YtjafbfepdmgjnaaGreatDoorJr
namespace Go.Proofs.YtjafbfepdmgjnaaGreatDoor
open Go.RowKit Go.Lib Go.Shelf Go.Maps
set_option linter.unusedVariables false
set_option linter.unusedSimpArgs false

/-- Where the parts below a node begin. -/
def offL (L : List (List Nd)) (i : Nat) : Nat := 1 + (L.take i).flatten.length
theorem offL_succ {L : List (List Nd)} {i : Nat} (hi : i < L.length) : offL L (i + 1) = offL L i + (L.getD i []).length := by
  unfold offL
  rw [List.take_add_one, List.getElem?_eq_getElem hi, List.flatten_append, List.length_append, List.getD_eq_getElem?_getD, List.getElem?_eq_getElem hi]
  simp; omega
theorem ov_drop (n : Nd) {L : List (List Nd)} {i : Nat} (hi : i < L.length) : (n :: L.flatten).drop (offL L i) = L.getD i [] ++ (L.drop (i + 1)).flatten := by
  unfold offL
  rw [Nat.add_comm, List.drop_succ_cons]
  have e : L.flatten = (L.take i).flatten ++ (L.drop i).flatten := by rw [← List.flatten_append, List.take_append_drop]
  rw [e, List.drop_left, List.drop_eq_getElem_cons hi, List.flatten_cons, List.getD_eq_getElem?_getD, List.getElem?_eq_getElem hi]
  rfl
theorem ov_sub (n : Nd) {L : List (List Nd)} {i : Nat} (hi : i < L.length) : subT (n :: L.flatten) (offL L i) (L.getD i []).length = L.getD i [] := by
  unfold subT
  rw [ov_drop n hi, List.take_left]
end Go.Proofs.YtjafbfepdmgjnaaGreatDoor

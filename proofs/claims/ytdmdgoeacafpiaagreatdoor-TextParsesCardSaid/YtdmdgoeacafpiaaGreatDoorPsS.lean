/-
  chattelref06: Word, Print: what they answer.
-/
import Derived.Test.YtdmdgoeacafpiaaGreatDoorPsR
import Derived.Test.YtdmdgoeacafpiaaGreatDoorTrm
import Derived.Test.YtdmdgoeacafpiaaGreatDoorCshU
import Derived.Test.YtdmdgoeacafpiaaGreatDoorDayP
namespace Go.Proofs.YtdmdgoeacafpiaaGreatDoor
open Go.RowKit Go.Lib
set_option linter.unusedVariables false
set_option linter.unusedSimpArgs false

set_option maxRecDepth 100000 in
set_option maxHeartbeats 2000000 in
theorem rword_any (k : Nat) (hk : k < 18) (w : World) : Calls Tryz.prog 22 #[.int .i64 k] w fun e w' => e = .returned (.string ⟨(wdN k).toArray⟩) ∧ Below w.heap.size w w' :=
  match k, hk with
  | 0, _ => by
    go_enter Tryz.func22, Tryz.ntmps22
    go_wp2_with fail
    go_ret
    exact ⟨rfl, newB _ _⟩
  | 1, _ => by
    go_enter Tryz.func22, Tryz.ntmps22
    go_wp2_with fail
    go_ret
    exact ⟨rfl, newB _ _⟩
  | 2, _ => by
    go_enter Tryz.func22, Tryz.ntmps22
    go_wp2_with fail
    go_ret
    exact ⟨rfl, newB _ _⟩
  | 3, _ => by
    go_enter Tryz.func22, Tryz.ntmps22
    go_wp2_with fail
    go_ret
    exact ⟨rfl, newB _ _⟩
  | 4, _ => by
    go_enter Tryz.func22, Tryz.ntmps22
    go_wp2_with fail
    go_ret
    exact ⟨rfl, newB _ _⟩
  | 5, _ => by
    go_enter Tryz.func22, Tryz.ntmps22
    go_wp2_with fail
    go_ret
    exact ⟨rfl, newB _ _⟩
  | 6, _ => by
    go_enter Tryz.func22, Tryz.ntmps22
    go_wp2_with fail
    go_ret
    exact ⟨rfl, newB _ _⟩
  | 7, _ => by
    go_enter Tryz.func22, Tryz.ntmps22
    go_wp2_with fail
    go_ret
    exact ⟨rfl, newB _ _⟩
  | 8, _ => by
    go_enter Tryz.func22, Tryz.ntmps22
    go_wp2_with fail
    go_ret
    exact ⟨rfl, newB _ _⟩
  | 9, _ => by
    go_enter Tryz.func22, Tryz.ntmps22
    go_wp2_with fail
    go_ret
    exact ⟨rfl, newB _ _⟩
  | 10, _ => by
    go_enter Tryz.func22, Tryz.ntmps22
    go_wp2_with fail
    go_ret
    exact ⟨rfl, newB _ _⟩
  | 11, _ => by
    go_enter Tryz.func22, Tryz.ntmps22
    go_wp2_with fail
    go_ret
    exact ⟨rfl, newB _ _⟩
  | 12, _ => by
    go_enter Tryz.func22, Tryz.ntmps22
    go_wp2_with fail
    go_ret
    exact ⟨rfl, newB _ _⟩
  | 13, _ => by
    go_enter Tryz.func22, Tryz.ntmps22
    go_wp2_with fail
    go_ret
    exact ⟨rfl, newB _ _⟩
  | 14, _ => by
    go_enter Tryz.func22, Tryz.ntmps22
    go_wp2_with fail
    go_ret
    exact ⟨rfl, newB _ _⟩
  | 15, _ => by
    go_enter Tryz.func22, Tryz.ntmps22
    go_wp2_with fail
    go_ret
    exact ⟨rfl, newB _ _⟩
  | 16, _ => by
    go_enter Tryz.func22, Tryz.ntmps22
    go_wp2_with fail
    go_ret
    exact ⟨rfl, newB _ _⟩
  | 17, _ => by
    go_enter Tryz.func22, Tryz.ntmps22
    go_wp2_with fail
    go_ret
    exact ⟨rfl, newB _ _⟩
  | k + 18, h => absurd h (by omega)
theorem ret_si {a b : ByteArray} {x y : Int} (h : a = b) (h' : x = y) : Ending.returned (.tuple #[.string a, .int .i64 x]) = .returned (.tuple #[.string b, .int .i64 y]) := by rw [h, h']
theorem join_snoc (L : List (List UInt8)) (x : List UInt8) (h : L ≠ []) : Lib.join (L ++ [x]) [44, 32] = Lib.join L [44, 32] ++ ([44, 32] ++ x) := by
  cases L with
  | nil => exact absurd rfl h
  | cons y r => rw [List.cons_append, Lib.join_cons, Lib.join_cons]; unfold Lib.joinTail; simp
/-- A text as it grows by the terms below. -/
def grX (X : List UInt8) (g : Nat → List UInt8) (i : Nat) : List UInt8 := X ++ (if i = 0 then [] else 40 :: Lib.join (uptoT g i) [44, 32])
theorem grX_zero (X : List UInt8) (g : Nat → List UInt8) : grX X g 0 = X := by unfold grX; simp
theorem grX_one (X : List UInt8) (g : Nat → List UInt8) : grX X g 1 = X ++ (40 :: g 0) := by unfold grX; simp [uptoT, Lib.join]
theorem grX_more (X : List UInt8) (g : Nat → List UInt8) (i : Nat) (h : 0 < i) : grX X g (i + 1) = grX X g i ++ ([44, 32] ++ g i) := by
  unfold grX
  rw [if_neg (by omega), if_neg (by omega), uptoT_succ, join_snoc _ _ (fun e => by have := congrArg List.length e; rw [uptoT_length] at this; simp at this; omega)]
  simp
end Go.Proofs.YtdmdgoeacafpiaaGreatDoor

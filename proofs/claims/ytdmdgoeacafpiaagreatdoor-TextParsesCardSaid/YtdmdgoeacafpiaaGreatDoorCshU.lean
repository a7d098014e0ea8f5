/-
  chattelref03: Name: what it answers.
-/
import Derived.Test.YtdmdgoeacafpiaaGreatDoorCshB
import Derived.Test.YtdmdgoeacafpiaaGreatDoorCshT
namespace Go.Proofs.YtdmdgoeacafpiaaGreatDoor
open Go.RowKit Go.Lib
set_option linter.unusedVariables false

theorem rname_no (c : Int) (h : c < 0 ∨ 7 < c) (w : World) : Calls Tryz.prog 25 #[.int .i64 c] w fun e w' => e = .returned (.string ⟨#[]⟩) ∧ Below w.heap.size w w' := by
  rcases h with h | h
  · go_enter Tryz.func25, Tryz.ntmps25
    go_wp2_with fail
    go_ret
    exact ⟨rfl, below_one w _⟩
  · have h0 : ¬ c < 0 := by omega
    go_enter Tryz.func25, Tryz.ntmps25
    go_wp2_with fail
    go_ret
    exact ⟨rfl, below_one w _⟩

theorem rname_0 (w : World) : Calls Tryz.prog 25 #[.int .i64 0] w fun e w' => e = .returned (.string ⟨(curN 0).toArray⟩) ∧ Below w.heap.size w w' := by
  go_enter Tryz.func25, Tryz.ntmps25
  go_wp2_with fail
  go_ret
  exact ⟨rfl, below_one w _⟩
theorem rname_1 (w : World) : Calls Tryz.prog 25 #[.int .i64 1] w fun e w' => e = .returned (.string ⟨(curN 1).toArray⟩) ∧ Below w.heap.size w w' := by
  go_enter Tryz.func25, Tryz.ntmps25
  go_wp2_with fail
  go_ret
  exact ⟨rfl, below_one w _⟩
theorem rname_2 (w : World) : Calls Tryz.prog 25 #[.int .i64 2] w fun e w' => e = .returned (.string ⟨(curN 2).toArray⟩) ∧ Below w.heap.size w w' := by
  go_enter Tryz.func25, Tryz.ntmps25
  go_wp2_with fail
  go_ret
  exact ⟨rfl, below_one w _⟩
theorem rname_3 (w : World) : Calls Tryz.prog 25 #[.int .i64 3] w fun e w' => e = .returned (.string ⟨(curN 3).toArray⟩) ∧ Below w.heap.size w w' := by
  go_enter Tryz.func25, Tryz.ntmps25
  go_wp2_with fail
  go_ret
  exact ⟨rfl, below_one w _⟩
theorem rname_4 (w : World) : Calls Tryz.prog 25 #[.int .i64 4] w fun e w' => e = .returned (.string ⟨(curN 4).toArray⟩) ∧ Below w.heap.size w w' := by
  go_enter Tryz.func25, Tryz.ntmps25
  go_wp2_with fail
  go_ret
  exact ⟨rfl, below_one w _⟩
theorem rname_5 (w : World) : Calls Tryz.prog 25 #[.int .i64 5] w fun e w' => e = .returned (.string ⟨(curN 5).toArray⟩) ∧ Below w.heap.size w w' := by
  go_enter Tryz.func25, Tryz.ntmps25
  go_wp2_with fail
  go_ret
  exact ⟨rfl, below_one w _⟩
theorem rname_6 (w : World) : Calls Tryz.prog 25 #[.int .i64 6] w fun e w' => e = .returned (.string ⟨(curN 6).toArray⟩) ∧ Below w.heap.size w w' := by
  go_enter Tryz.func25, Tryz.ntmps25
  go_wp2_with fail
  go_ret
  exact ⟨rfl, below_one w _⟩
theorem rname_7 (w : World) : Calls Tryz.prog 25 #[.int .i64 7] w fun e w' => e = .returned (.string ⟨(curN 7).toArray⟩) ∧ Below w.heap.size w w' := by
  go_enter Tryz.func25, Tryz.ntmps25
  go_wp2_with fail
  go_ret
  exact ⟨rfl, below_one w _⟩
theorem rname_any (k : Nat) (hk : k < 8) (w : World) : Calls Tryz.prog 25 #[.int .i64 k] w fun e w' => e = .returned (.string ⟨(curN k).toArray⟩) ∧ Below w.heap.size w w' := by
  match k, hk with
  | 0, _ => exact rname_0 w
  | 1, _ => exact rname_1 w
  | 2, _ => exact rname_2 w
  | 3, _ => exact rname_3 w
  | 4, _ => exact rname_4 w
  | 5, _ => exact rname_5 w
  | 6, _ => exact rname_6 w
  | 7, _ => exact rname_7 w

end Go.Proofs.YtdmdgoeacafpiaaGreatDoor

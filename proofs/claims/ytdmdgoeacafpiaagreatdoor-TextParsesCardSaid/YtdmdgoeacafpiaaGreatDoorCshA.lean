/-
  Package cash: there, Name, Digits, Of: what they answer.
-/
import Derived.Test.YtdmdgoeacafpiaaGreatDoorTxt
namespace Go.Proofs.YtdmdgoeacafpiaaGreatDoor
open Go.RowKit Go.Lib
set_option linter.unusedVariables false

/-- Names, and digits behind the point. -/
def curNs : List (List UInt8) := [[69, 85, 82], [85, 83, 68], [71, 66, 80], [74, 80, 89], [67, 72, 70], [83, 69, 75], [75, 87, 68], [88, 65, 85]]
def curDs : List Nat := [2, 2, 2, 0, 2, 2, 3, 6]
def curN (k : Nat) : List UInt8 := curNs.getD k []
def curD (k : Nat) : Nat := curDs.getD k 0
/-- The table of currencies. -/
structure CurW (w : World) : Prop where
  nm : ∀ k, k < 8 → w.cell? ⟨1, k * 2, none⟩ = some (.string ⟨(curN k).toArray⟩)
  dg : ∀ k, k < 8 → w.cell? ⟨1, k * 2 + 1, none⟩ = some (.int .i64 (curD k))
theorem CurW.keep {w w' : World} (h : CurW w) (hb : Below w.heap.size w w') : CurW w' :=
  ⟨fun k hk => (hb.cell (p := ⟨_, k * 2, none⟩) (lt_cell' (h.nm k hk))).trans (h.nm k hk), fun k hk => (hb.cell (p := ⟨_, k * 2 + 1, none⟩) (lt_cell' (h.dg k hk))).trans (h.dg k hk)⟩

theorem there_yes (c : Int) (w : World) (h0 : 0 ≤ c) (h1 : c < 8) : Calls Tryz.prog 107 #[.int .i64 c] w fun e w' => e = .returned (.bool true) ∧ w = w' := by
  go_enter Tryz.func107, Tryz.ntmps107
  go_wp2_with fail
  go_ret
  exact ⟨rfl, rfl⟩
theorem there_no (c : Int) (w : World) (h : c < 0 ∨ 8 ≤ c) : Calls Tryz.prog 107 #[.int .i64 c] w fun e w' => e = .returned (.bool false) ∧ w = w' := by
  rcases h with h | h
  · go_enter Tryz.func107, Tryz.ntmps107
    go_wp2_with fail
    go_ret
    exact ⟨rfl, rfl⟩
  · have h0 : 0 ≤ c := by omega
    have h1 : ¬ c < 8 := by omega
    go_enter Tryz.func107, Tryz.ntmps107
    go_wp2_with fail
    go_ret
    exact ⟨rfl, rfl⟩

theorem name_ok (k : Nat) (hk : k < 8) (w : World) (C : CurW w) : Calls Tryz.prog 85 #[.int .i64 k] w fun e w' => e = .returned (.tuple #[.string ⟨(curN k).toArray⟩, .int .i64 0]) ∧ w = w' := by
  have HT := Lib.hid (fun w => there_yes k w (by omega) (by omega))
  have hc := C.nm k hk
  have i0 : (0 : Int) ≤ (k : Int) := by omega
  have i1 : (k : Int) < 8 := by omega
  clear C
  go_enter Tryz.func85, Tryz.ntmps85
  go_wp2_with fail
  refine (HT.out _).mono ?_
  rintro e w1 ⟨rfl, rfl⟩
  go_wp2_with fail
  go_ret2
  exact ⟨rfl, rfl⟩
theorem name_no (c : Int) (h : c < 0 ∨ 8 ≤ c) (w : World) : Calls Tryz.prog 85 #[.int .i64 c] w fun e w' => e = .returned (.tuple #[.string ⟨#[]⟩, .int .i64 10]) ∧ w = w' := by
  have HT := Lib.hid (fun w => there_no c w h)
  clear h
  go_enter Tryz.func85, Tryz.ntmps85
  go_wp2_with fail
  refine (HT.out _).mono ?_
  rintro e w1 ⟨rfl, rfl⟩
  go_wp2_with fail
  go_ret2
  exact ⟨rfl, rfl⟩
end Go.Proofs.YtdmdgoeacafpiaaGreatDoor

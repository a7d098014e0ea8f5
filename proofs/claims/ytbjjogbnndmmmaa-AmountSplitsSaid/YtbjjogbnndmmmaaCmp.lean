/-
  cmp.Compare at uint64, and the order that giveAway sorts by.
-/
import Derived.Test.YtbjjogbnndmmmaaIns
namespace Go.Proofs.Ytbjjogbnndmmmaa
open Go.RowKit Go.Sort
set_option linter.unusedVariables false

def cmpU (x y : Int) : Int := if x < y then -1 else if y < x then 1 else 0
theorem cmpU_neg (x y : Int) : cmpU x y < 0 ↔ x < y := by unfold cmpU; split <;> (try split) <;> omega

theorem compare_any (x y : Int) (w : World) :
    Calls Try.prog 36 #[.int .u64 x, .int .u64 y] w fun e w' => e = .returned (.int .i64 (cmpU x y)) ∧ w' = w := by
  rcases Int.lt_trichotomy x y with h | h | h
  · have HU : Hid (cmpU x y = -1) := Lib.hid (by unfold cmpU; rw [if_pos h])
    go_enter Try.func36, Try.ntmps36
    go_wp2
    go_ret
    exact ⟨ret_int HU.out.symm, rfl⟩
  · subst h
    have HU : Hid (cmpU x x = 0) := Lib.hid (by unfold cmpU; rw [if_neg (by omega), if_neg (by omega)])
    go_enter Try.func36, Try.ntmps36
    go_wp2
    go_ret
    exact ⟨ret_int HU.out.symm, rfl⟩
  · have HU : Hid (cmpU x y = 1) := Lib.hid (by unfold cmpU; rw [if_neg (by omega), if_pos h])
    go_enter Try.func36, Try.ntmps36
    go_wp2
    go_ret
    exact ⟨ret_int HU.out.symm, rfl⟩

set_option maxHeartbeats 1000000 in
theorem order_any (K : Nat → Int) (x y n bb cb co cc : Nat) (w : World) (hb : w.cell? ⟨bb, 0, none⟩ = some (.slice (some ⟨cb, co, none⟩) n cc)) (hx : x < n) (hy : y < n) (hn : n < 4611686018427387904)
    (hc : ∀ t, t < n → w.cell? ⟨cb, co + t, none⟩ = some (.int .u64 (K t))) :
    Calls Try.prog 35 #[.int .i64 x, .int .i64 y, .pointer (some ⟨bb, 0, none⟩)] w fun e w' => e = .returned (.int .i64 (cmpU (K y) (K x))) ∧ ∃ q, w' = w.drewN q := by
  have hxI : (x : Int) < (n : Int) := by omega
  have hyI : (y : Int) < (n : Int) := by omega
  go_enter Try.func35, Try.ntmps35
  go_wp2
  go_quiet (first | (go_at_call 36; refine Calls.quiet_of_same (compare_any _ _ _)))
  go_wp2
  go_ret
  exact ⟨rfl, nq, rfl⟩

end Go.Proofs.Ytbjjogbnndmmmaa

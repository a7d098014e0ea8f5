/-
  chattellaw05: Nodes.
-/
import Derived.Test.YtmaiecbhloagoaaGreatDoorJnA
namespace Go.Proofs.YtmaiecbhloagoaaGreatDoor
open Go.RowKit Go.Lib
set_option linter.unusedVariables false
set_option linter.unusedSimpArgs false

set_option maxHeartbeats 2000000 in
set_option maxRecDepth 100000 in
theorem nodes_any (t : List Nd) (hl : t.length ≤ 1000) (v1 v2 : Value) (w : World) (h1 : SlT w v1 t) (h2 : SlT w v2 t) :
    Calls Tryz.prog 15 #[v1, v2] w fun e w' => e = .returned (.bool true) ∧ Below w.heap.size w w' := by
  obtain ⟨a1, c1, rfl⟩ := h1.slice
  obtain ⟨a2, c2, rfl⟩ := h2.slice
  have H1 := Lib.hid h1
  have H2 := Lib.hid h2
  clear h1 h2
  go_enter Tryz.func15, Tryz.ntmps15
  go_wp2_with fail
  go_loopw [5] (fun vk wx => ∃ k q : Nat, k ≤ t.length ∧ vk = .int .i64 k ∧ wx = w.drewN q) (fun vk _ => t.length - (RowKit.intOf vk).toNat)
  case atStart => exact ⟨0, 0, Nat.zero_le _, rfl, rfl⟩
  case round =>
    obtain ⟨k, q, hk, rfl, hw⟩ := hrel
    have HW := Lib.hid hw
    by_cases hlt : k < t.length
    · rcases H1.out with ⟨h, _⟩ | ⟨_, b1, o1, c1', e, h3, h4, hN1⟩
      · rw [h] at hlt; exact absurd hlt (Nat.not_lt_zero _)
      · rcases H2.out with ⟨h, _⟩ | ⟨_, b2, o2, c2', e', h3', h4', hN2⟩
        · rw [h] at hlt; exact absurd hlt (Nat.not_lt_zero _)
        · injection e with e1 e2 e3
          injection e' with e1' e2' e3'
          subst e1 e3 e1' e3'
          have g1 := hN1.keep (below_drewT w q) k hlt
          have g2 := hN2.keep (below_drewT w q) k hlt
          rw [← hw] at g1 g2
          have j0 : (0 : Int) ≤ (k : Int) := by omega
          have j1 : (k : Int) < (t.length : Int) := by omega
          generalize t.getD k default = nd at *
          obtain ⟨x0, x1, x2, x3, x4⟩ := nd
          obtain ⟨p0, p1, p2, p3, p4⟩ := g1
          obtain ⟨q0, q1, q2, q3, q4⟩ := g2
          clear H1 H2 hN1 hN2 hw
          go_wp2_with fail
          go_quiet (fail)
          go_wp2
          go_roundw
          case rel => exact ⟨k + 1, q + nq, by omega, by go_num, by rw [HW.out, World.drewN_drewN]⟩
          case measure => simp [RowKit.intOf]; omega
    · obtain rfl : k = t.length := by omega
      go_wp2_with fail
      go_ret
      exact ⟨rfl, below_drewT w q⟩

end Go.Proofs.YtmaiecbhloagoaaGreatDoor

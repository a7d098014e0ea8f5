/-
  slices.Min at []int, and amount.weigh.
-/
import Derived.Test.YtbjjogbnndmmmaaSum
import Derived.WalkLawsBesides
namespace Go.Proofs.Ytbjjogbnndmmmaa
open Go.RowKit
set_option linter.unusedVariables false

/-- The least of the first numbers, and one more. -/
def minK (l : List Int) : Nat → Int
  | 0 => l.getD 0 0
  | k + 1 => min (minK l k) (l.getD (k + 1) 0)

theorem minK_neg (l : List Int) : ∀ k, minK l k < 0 ↔ ∃ t, t ≤ k ∧ l.getD t 0 < 0
  | 0 => ⟨fun h => ⟨0, Nat.le_refl _, h⟩, fun ⟨t, h1, h2⟩ => by
      have e : t = 0 := by omega
      subst e
      exact h2⟩
  | k + 1 => by
    have ih := minK_neg l k
    simp only [minK]
    constructor
    · intro h
      by_cases c : minK l k < 0
      · obtain ⟨t, h1, h2⟩ := ih.1 c; exact ⟨t, by omega, h2⟩
      · exact ⟨k + 1, Nat.le_refl _, by omega⟩
    · rintro ⟨t, h1, h2⟩
      by_cases c : t = k + 1
      · subst c; omega
      · have := ih.2 ⟨t, by omega, h2⟩; omega

set_option maxHeartbeats 1000000 in
theorem min_row (l : List Int) (b o cap : Nat) (w : World) (hr : Row w b o l) (h0 : 0 < l.length) (hn : l.length ≤ 1152921504606846976) :
    Calls Try.prog 24 #[.slice (some ⟨b, o, none⟩) l.length cap] w fun e w' => e = .returned (.int .i64 (minK l (l.length - 1))) ∧ w = w' := by
  obtain ⟨n, hnl⟩ : ∃ n, n = l.length := ⟨_, rfl⟩
  have HN := Lib.hid hnl
  rw [← hnl] at hn h0 ⊢
  have hcw : ∀ t, t < n → w.cell? ⟨b, o + t, none⟩ = some (.int .i64 (l.getD t 0)) := fun t ht => hr t (by omega)
  have hc0 : w.cell? ⟨b, o, none⟩ = some (.int .i64 (minK l 0)) := hcw 0 h0
  clear hr hnl
  go_enter Try.func24, Try.ntmps24
  go_wp2
  go_loop [3, 4] (fun vm vi => ∃ k : Nat, k < n ∧ vi = .int .i64 ((k : Int) + 1) ∧ vm = .int .i64 (minK l k)) (fun _ vi => n - (intOf vi).toNat)
  case atStart => exact ⟨0, h0, rfl, rfl⟩
  case round =>
    obtain ⟨k, hk, rfl, rfl⟩ := hrel
    by_cases hlt : k + 1 < n
    · have hcx : w.cell? ⟨b, o + (k + 1), none⟩ = some (.int .i64 (l.getD (k + 1) 0)) := hcw (k + 1) hlt
      obtain ⟨x, hx⟩ : ∃ x, x = l.getD (k + 1) 0 := ⟨_, rfl⟩
      obtain ⟨m, hm⟩ : ∃ m, m = minK l k := ⟨_, rfl⟩
      rw [← hx] at hcx
      have HX := Lib.hid hx
      have HM := Lib.hid hm
      rw [← hm]
      clear hcw hc0 hx hm
      go_wp2
      go_round
      case rel => exact ⟨k + 1, hlt, by go_num, num_eqS (by rw [minK, ← HX.out, ← HM.out])⟩
      case measure => simp [intOf]; omega
    · obtain rfl : k = n - 1 := by omega
      go_wp2
      go_ret
      exact ⟨rfl, rfl⟩

/-- Which sum weights have, or what is wrong. -/
theorem weigh_arg (a : Option Addr) (len cap : Nat) (w : World) (h : len < 1 ∨ 64 < len) (hm : len ≤ 1152921504606846976) :
    Calls Try.prog 11 #[.slice a len cap] w fun e w' => e = .returned (.tuple #[.int .i64 0, .int .i64 1]) ∧ w = w' := by
  by_cases h1 : len < 1
  · go_enter Try.func11, Try.ntmps11
    go_wp2
    go_ret2
    exact ⟨rfl, rfl⟩
  · have h2 : 64 < len := by omega
    clear h
    go_enter Try.func11, Try.ntmps11
    go_wp2
    go_ret2
    exact ⟨rfl, rfl⟩

theorem weigh_neg (l : List Int) (b o cap : Nat) (w : World) (hr : Row w b o l) (h0 : 0 < l.length) (h64 : l.length ≤ 64) (hneg : ∃ t, t < l.length ∧ l.getD t 0 < 0) :
    Calls Try.prog 11 #[.slice (some ⟨b, o, none⟩) l.length cap] w fun e w' => e = .returned (.tuple #[.int .i64 0, .int .i64 10]) ∧ w = w' := by
  have HM := Lib.hid (min_row l b o cap w hr h0 (by omega))
  have hm : minK l (l.length - 1) < 0 := (minK_neg l _).2 (by obtain ⟨t, h1, h2⟩ := hneg; exact ⟨t, by omega, h2⟩)
  generalize minK l (l.length - 1) = m at *
  generalize l.length = n at *
  clear hr hneg
  go_enter Try.func11, Try.ntmps11
  go_wp2_with (go_at_call 24; refine HM.out.mono ?_; rintro e w' ⟨rfl, rfl⟩)
  go_ret2
  exact ⟨rfl, rfl⟩

theorem weigh_sum (l : List Int) (b o cap : Nat) (w : World) (hr : Row w b o l) (hi : InI l) (h0 : 0 < l.length) (h64 : l.length ≤ 64) (hpos : ∀ t, t < l.length → 0 ≤ l.getD t 0) :
    Calls Try.prog 11 #[.slice (some ⟨b, o, none⟩) l.length cap] w fun e w' => e = .returned (.tuple #[.int .i64 (fitN (sumL l)), .int .i64 (fitE (sumL l))]) ∧ w = w' := by
  have HM := Lib.hid (min_row l b o cap w hr h0 (by omega))
  have HS := Lib.hid (sum_row l b o cap w hr hi (by omega))
  have hm : ¬ minK l (l.length - 1) < 0 := fun g => by obtain ⟨t, h1, h2⟩ := (minK_neg l _).1 g; have := hpos t (by omega); omega
  generalize minK l (l.length - 1) = m at *
  generalize l.length = n at *
  generalize fitN (sumL l) = p at *
  generalize fitE (sumL l) = q at *
  clear hr hpos hi
  go_enter Try.func11, Try.ntmps11
  go_wp2_with (first | (go_at_call 24; refine HM.out.mono ?_; rintro e w' ⟨rfl, rfl⟩) | (go_at_call 25; refine HS.out.mono ?_; rintro e w' ⟨rfl, rfl⟩))
  go_ret2
  exact ⟨rfl, rfl⟩

end Go.Proofs.Ytbjjogbnndmmmaa

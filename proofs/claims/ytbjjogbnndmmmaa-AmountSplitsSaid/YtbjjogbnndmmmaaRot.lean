/-
  slices.swapRangeCmpFunc and slices.rotateCmpFunc at []int: what they make of the row.
-/
import Derived.Test.YtbjjogbnndmmmaaIns
import Derived.Test.YtbjjogbnndmmmaaMergeA
namespace Go.Proofs.Ytbjjogbnndmmmaa
open Go.RowKit Go.Sort
set_option linter.unusedVariables false

set_option maxHeartbeats 4000000 in
set_option maxRecDepth 100000 in
theorem swr_walk (fv : Value) (blk off cap a b n : Nat) (d : Array Int) (w : World) (hH : Holds (Value.int .i64) w blk off d)
    (hab : a + n ≤ b) (hb : b + n ≤ d.size) (hsz : d.size < 4611686018427387904) :
    Calls Try.prog 44 #[.slice (some ⟨blk, off, none⟩) d.size cap, .int .i64 a, .int .i64 b, .int .i64 n, fv] w fun e w' =>
      e = .returned (.tuple #[]) ∧ ∃ q, w' = rowW w blk off q (swpRange d a b n) := by
  go_enter Try.func44, Try.ntmps44
  go_wp2
  go_loopw [10] (fun vi wr => ∃ (i q : Nat), vi = .int .i64 i ∧ i ≤ n ∧ wr = rowW w blk off q (swpRange d a b i)) (fun vi _ => n - (intOf vi).toNat)
  case atStart => exact ⟨0, 0, rfl, by omega, rowW_start hH⟩
  case round =>
    obtain ⟨i, q, rfl, hin, hwr⟩ := hrel
    by_cases hlt : i < n
    · obtain ⟨dj, hdj⟩ : ∃ dj, dj = swpRange d a b i := ⟨_, rfl⟩
      have hsj : dj.size = d.size := by rw [hdj]; exact size_swpRange _ _ _ _
      obtain ⟨G, hG⟩ : ∃ G : Nat → Int, ∀ t, G t = dj[t]! := ⟨fun t => dj[t]!, fun _ => rfl⟩
      have hcw : ∀ t, t < d.size → wr.cell? ⟨blk, off + t, none⟩ = some (.int .i64 (G t)) := fun t ht => by
        rw [hwr, hG, hdj]; exact rowW_cell hH (size_swpRange _ _ _ _) t ht
      have hfw : ∀ t, t < d.size → wr.frozen? ⟨blk, off + t, none⟩ = false := fun t ht => by
        rw [hwr]; exact rowW_frozen hH t ht
      have HW : Hid (wr = rowW w blk off q dj) := Lib.hid (by rw [hwr, hdj])
      have HG : Hid (∀ t, G t = dj[t]!) := hG
      have HD := Lib.hid hdj
      clear hwr hG hdj
      go_wp2
      go_region
      all_goals go_wp2
      go_roundw
      case rel =>
        refine ⟨i + 1, q + 1, by go_num, by omega, ?_⟩
        rw [HW.out, HG.out, HG.out, swpRange, ← HD.out]
        exact rowW_swap w blk off q 1 dj (a + i) (b + i) (by omega) (by omega)
      case measure => simp [intOf]; omega
    · obtain rfl : i = n := by omega
      go_wp2
      go_end0
      exact ⟨rfl, q, rfl⟩

set_option maxHeartbeats 4000000 in
set_option maxRecDepth 100000 in
theorem rot_walk (fv : Value) (blk off cap a m b : Nat) (d : Array Int) (w : World) (hH : Holds (Value.int .i64) w blk off d)
    (ham : a < m) (hmb : m < b) (hb : b ≤ d.size) (hsz : d.size < 4611686018427387904) :
    Calls Try.prog 43 #[.slice (some ⟨blk, off, none⟩) d.size cap, .int .i64 a, .int .i64 m, .int .i64 b, fv] w fun e w' =>
      e = .returned (.tuple #[]) ∧ ∃ q d', w' = rowW w blk off q d' ∧ RotOf a m b d d' ∧ PermIn a b d d' := by
  go_enter Try.func43, Try.ntmps43
  go_wp2
  go_loopw [10, 11] (fun vi vj wr => ∃ (i j q : Nat) (dk : Array Int), vi = .int .i64 i ∧ vj = .int .i64 j ∧ 0 < i ∧ 0 < j ∧ i ≤ m - a ∧ j ≤ b - m ∧ wr = rowW w blk off q dk ∧ dk.size = d.size ∧ PermIn a b d dk ∧
      (∀ d', RotOf (m - i) m (m + j) dk d' → RotOf a m b d d')) (fun vi vj _ => (intOf vi).toNat + (intOf vj).toNat)
  case atStart =>
    refine ⟨m - a, b - m, 0, d, by go_num, by go_num, by omega, by omega, by omega, by omega, rowW_start hH, rfl, permIn_refl _ _ _, ?_⟩
    intro d' h
    rw [show m - (m - a) = a from by omega, show m + (b - m) = b from by omega] at h
    exact h
  case round =>
    obtain ⟨i, j, q, dk, rfl, rfl, hi0, hj0, him, hjb, hwr, hsk, hpk, hR⟩ := hrel
    have HR := Lib.hid hR
    have HP := Lib.hid hpk
    have HW := Lib.hid hwr
    have hK : Holds (Value.int .i64) wr blk off dk := by rw [hwr]; exact holds_putRow _ _ _ _ d dk (holds_ahead _ _ _ _ _ _ hH) hsk
    have hcall : ∀ x y n : Nat, x + n ≤ y → y + n ≤ d.size → Calls Try.prog 44 #[.slice (some ⟨blk, off, none⟩) d.size cap, .int .i64 x, .int .i64 y, .int .i64 n, fv] wr fun e w' =>
        e = .returned (.tuple #[]) ∧ ∃ q', w' = rowW w blk off q' (swpRange dk x y n) := by
      intro x y n h1 h2
      have := swr_walk fv blk off cap x y n dk wr hK h1 (by omega) (by omega)
      rw [hsk] at this
      refine this.mono ?_
      rintro e w' ⟨rfl, q', rfl⟩
      refine ⟨rfl, q + q', ?_⟩
      rw [HW.out]
      exact putRow_ahead_putRow _ _ _ _ _ _ _ _ (size_swpRange _ _ _ _)
    have HCl := Lib.hid hcall
    clear hR hpk hwr hK hcall
    rcases Nat.lt_trichotomy i j with hlt | heq | hgt
    · have c := HCl.out (m - i) (m + j - i) i (by omega) (by omega)
      rw [show ((m - i : Nat) : Int) = (m : Int) - (i : Int) from by omega, show ((m + j - i : Nat) : Int) = (m : Int) + (j : Int) - (i : Int) from by omega] at c
      have HCc := Lib.hid c
      have hn : (i : Int) ≠ (j : Int) := by omega
      have hnb : ((i : Int) != (j : Int)) = true := by simpa using hn
      clear c
      go_wp2_with fail
      refine HCc.out.mono ?_
      rintro e w' ⟨rfl, q', rfl⟩
      go_wp2_with fail
      go_roundw
      case rel =>
        refine ⟨i, j - i, q', swpRange dk (m - i) (m + j - i) i, rfl, by go_num, hi0, by omega, him, by omega, rfl, by rw [size_swpRange]; exact hsk, permIn_trans _ _ _ _ _ HP.out (swpRange_perm _ _ _ _ _ _ (by omega) (by omega) (by omega) (by omega)), ?_⟩
        intro d' h
        exact HR.out d' (RotOf.right hlt hi0 (by omega) (by omega) h)
      case measure => simp [intOf]; omega
    · subst heq
      have c := HCl.out (m - i) m i (by omega) (by omega)
      rw [show ((m - i : Nat) : Int) = (m : Int) - (i : Int) from by omega] at c
      have HCc := Lib.hid c
      clear c
      go_wp2_with fail
      refine HCc.out.mono ?_
      rintro e w' ⟨rfl, q', rfl⟩
      go_wp2_with fail
      go_end0
      exact ⟨rfl, q', swpRange dk (m - i) m i, rfl, HR.out _ (RotOf.even dk m i (by omega) (by omega)), permIn_trans _ _ _ _ _ HP.out (swpRange_perm _ _ _ _ _ _ (by omega) (by omega) (by omega) (by omega))⟩
    · have c := HCl.out (m - i) m j (by omega) (by omega)
      rw [show ((m - i : Nat) : Int) = (m : Int) - (i : Int) from by omega] at c
      have HCc := Lib.hid c
      have hn : (i : Int) ≠ (j : Int) := by omega
      have hnb : ((i : Int) != (j : Int)) = true := by simpa using hn
      clear c
      go_wp2_with fail
      refine HCc.out.mono ?_
      rintro e w' ⟨rfl, q', rfl⟩
      go_wp2_with fail
      go_roundw
      case rel =>
        refine ⟨i - j, j, q', swpRange dk (m - i) m j, by go_num, rfl, by omega, hj0, by omega, hjb, rfl, by rw [size_swpRange]; exact hsk, permIn_trans _ _ _ _ _ HP.out (swpRange_perm _ _ _ _ _ _ (by omega) (by omega) (by omega) (by omega)), ?_⟩
        intro d' h
        exact HR.out d' (RotOf.left hgt hj0 (by omega) (by omega) h)
      case measure => simp [intOf]; omega

end Go.Proofs.Ytbjjogbnndmmmaa

/-
  slices.symMergeCmpFunc at []int: the second part is one number.
-/
import Derived.Test.YtbjjogbnndmmmaaSym
namespace Go.Proofs.Ytbjjogbnndmmmaa
open Go.RowKit Go.Sort
set_option linter.unusedVariables false

set_option maxHeartbeats 8000000 in
set_option maxRecDepth 100000 in
theorem sym_last (bx : Array Value) (cf : Int → Int → Int) (κ : Int → Int) (V : Int → Prop) (blk off cap a m b n : Nat) (d0 d : Array Int) (w : World) (hH : Holds (Value.int .i64) w blk off d0)
    (hκ : ∀ x y, cf x y < 0 ↔ κ y < κ x) (hC : CmpR bx cf V blk off d0.size w) (hs : d.size = d0.size) (hV : ∀ t, t < d.size → V d[t]!) (hm : b = m + 1) (ham : a + 1 < m) (hb : b ≤ d.size) (hsz : d.size < 4611686018427387904)
    (h1 : Srt κ a m d) (hA : Apt a m b d) :
    Calls Try.prog 42 #[.slice (some ⟨blk, off, none⟩) d.size cap, .int .i64 a, .int .i64 m, .int .i64 b, .func (.func 35) #[] bx] (rowW w blk off n d) (SymPost κ w blk off a b d) := by
  have HC : Hid _ := hC
  have HV : Hid _ := hV
  have Hκ : Hid _ := hκ
  have H1 : Hid _ := h1
  have HA : Hid _ := hA
  have HS := Lib.hid hs
  have hmb : m < b := by omega
  have hbm : b ≤ m + 1 := by omega
  have hnot : ((m : Int) - (a : Int) == 1) = false := by simp; omega
  have hone : (b : Int) - (m : Int) = 1 := by omega
  have HM := Lib.hid hm
  clear hC hV hκ h1 hA hs hm
  go_enter Try.func42, Try.ntmps42
  go_wp2
  go_loopw [14, 15, 16] (fun vi vj vh wr => ∃ (i j q : Nat), vi = .int .i64 i ∧ vj = .int .i64 j ∧ a ≤ i ∧ i ≤ j ∧ j ≤ m ∧ wr = rowW w blk off q d ∧ FoundB κ d a m i j) (fun vi vj _ _ => (intOf vj).toNat - (intOf vi).toNat)
  case atStart => exact ⟨a, m, n, rfl, rfl, Nat.le_refl _, by omega, Nat.le_refl _, rfl, ⟨Or.inl rfl, Or.inl rfl⟩⟩
  case round =>
    obtain ⟨i, j, q, rfl, rfl, hmi, hij, hjb, hwr, HI⟩ := hrel
    by_cases hlt : i < j
    · obtain ⟨h, hh⟩ : ∃ h : Nat, ((i : Int) + (j : Int)) / 2 = (h : Int) := ⟨(i + j) / 2, by omega⟩
      have hh1 : i ≤ h := by omega
      have hh2 : h < j := by omega
      obtain ⟨x, hx⟩ : ∃ x, x = d[m]! := ⟨_, rfl⟩
      obtain ⟨y, hy⟩ : ∃ y, y = d[h]! := ⟨_, rfl⟩
      have hc1 : wr.cell? ⟨blk, off + m, none⟩ = some (.int .i64 x) := by rw [hwr, hx]; exact rowW_cell hH HS.out m (by have := HS.out; omega)
      have hc2 : wr.cell? ⟨blk, off + h, none⟩ = some (.int .i64 y) := by rw [hwr, hy]; exact rowW_cell hH HS.out h (by have := HS.out; omega)
      have hcall : ∀ nq, Calls Try.prog 35 (#[.int .i64 x, .int .i64 y] ++ bx) (wr.drewN nq) fun e w' => e = .returned (.int .i64 (cf x y)) ∧ ∃ q, w' = (wr.drewN nq).drewN q := by
        intro nq
        rw [hwr, rowW_drewN, hx, hy]
        exact HC.out (q + nq) d HS.out _ _ (HV.out m (by omega)) (HV.out h (by omega))
      have HCc : Hid _ := hcall
      have HW := Lib.hid hwr
      have HX := Lib.hid hx
      have HY := Lib.hid hy
      clear hcall hwr hx hy
      by_cases hl : cf x y < 0
      · have HL := Lib.hid ((Hκ.out x y).1 hl)
        have hld : decide (cf x y < 0) = true := decide_eq_true hl
        go_wp2_with fail
        go_quiet (first | (go_at_call 35; refine Calls.quiet_of (HCc.out _)))
        go_wp2
        go_roundw
        case rel => exact ⟨i, h, q + nq, rfl, rfl, by omega, by omega, by omega, by rw [HW.out]; exact rowW_drewN _ _ _ _ _ _, ⟨HI.1, Or.inr (by rw [← HX.out, ← HY.out]; exact HL.out)⟩⟩
        case measure => simp [intOf]; omega
      · have HL := Lib.hid (fun g => hl ((Hκ.out x y).2 g))
        have hld : decide (cf x y < 0) = false := decide_eq_false hl
        go_wp2_with fail
        go_quiet (first | (go_at_call 35; refine Calls.quiet_of (HCc.out _)))
        go_wp2
        go_roundw
        case rel => exact ⟨h + 1, j, q + nq, by go_num, rfl, by omega, by omega, hjb, by rw [HW.out]; exact rowW_drewN _ _ _ _ _ _, ⟨Or.inr (by rw [Nat.add_sub_cancel, ← HX.out, ← HY.out]; exact HL.out), HI.2⟩⟩
        case measure => simp [intOf]; omega
    · obtain rfl : i = j := by omega
      subst hwr
      go_wp2
      go_loopw [17] (fun vk wr => ∃ (k q : Nat) (dk : Array Int), vk = .int .i64 k ∧ i ≤ k ∧ k ≤ m ∧ wr = rowW w blk off q dk ∧ RotOf k m (m + 1) d dk ∧ PermIn a b d dk) (fun vk _ => (intOf vk).toNat)
      case atStart => exact ⟨m, q, d, rfl, by omega, Nat.le_refl _, rfl, RotOf.triv _ _ _ _ (Or.inl rfl), permIn_refl _ _ _⟩
      case round =>
        obtain ⟨k, q2, dk, rfl, hik, hkm, hwr, hR, hP⟩ := hrel
        have HR := Lib.hid hR
        have HP := Lib.hid hP
        have hsk : dk.size = d.size := hR.1
        clear hR hP
        by_cases hk : i < k
        · obtain ⟨x, hx⟩ : ∃ x, x = dk[k]! := ⟨_, rfl⟩
          obtain ⟨y, hy⟩ : ∃ y, y = dk[k - 1]! := ⟨_, rfl⟩
          have hc1 : wr.cell? ⟨blk, off + k, none⟩ = some (.int .i64 x) := by rw [hwr, hx]; exact rowW_cell hH (by rw [hsk]; exact HS.out) k (by have := HS.out; omega)
          have hc2 : wr.cell? ⟨blk, off + (k - 1), none⟩ = some (.int .i64 y) := by rw [hwr, hy]; exact rowW_cell hH (by rw [hsk]; exact HS.out) (k - 1) (by have := HS.out; omega)
          have hf1 : wr.frozen? ⟨blk, off + k, none⟩ = false := by rw [hwr]; exact rowW_frozen hH k (by have := HS.out; omega)
          have hf2 : wr.frozen? ⟨blk, off + (k - 1), none⟩ = false := by rw [hwr]; exact rowW_frozen hH (k - 1) (by have := HS.out; omega)
          have HW := Lib.hid hwr
          have HX := Lib.hid hx
          have HY := Lib.hid hy
          clear hwr hx hy
          go_wp2_with fail
          go_region
          all_goals go_wp2
          go_roundw
          case rel =>
            refine ⟨k - 1, q2 + 1, swp dk k (k - 1), by go_num, by omega, by omega, ?_, HR.out.down hkm (by omega) (by omega), permIn_trans _ _ _ _ _ HP.out (swp_permIn _ _ _ _ _ (by omega) (by omega) (by omega) (by omega) (by omega))⟩
            rw [HW.out, HX.out, HY.out]
            exact rowW_swap w blk off q2 1 dk k (k - 1) (by omega) (by omega)
          case measure => simp [intOf]; omega
        · obtain rfl : k = i := by omega
          subst hwr
          go_wp2_with fail
          go_end0
          refine ⟨rfl, q2, dk, rfl, HP.out, ?_⟩
          have hm := HM.out
          subst hm
          exact merge_last H1.out HA.out hmi hjb HI.1 HI.2 HR.out

end Go.Proofs.Ytbjjogbnndmmmaa

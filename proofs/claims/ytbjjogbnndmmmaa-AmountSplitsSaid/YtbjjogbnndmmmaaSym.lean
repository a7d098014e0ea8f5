/-
  slices.symMergeCmpFunc at []int, by giveAway's own order: two sorted parts become one.
-/
import Derived.Test.YtbjjogbnndmmmaaRot
import Derived.Deep.CutBlock
import Derived.Deep.Cut
import Derived.Deep.CutRange
import Derived.Deep.DeepCutAuto
namespace Go.Proofs.Ytbjjogbnndmmmaa
open Go.RowKit Go.Sort
set_option linter.unusedVariables false

theorem RotOf.up {a k : Nat} {d dk : Array Int} (h : RotOf a (a + 1) (k + 1) d dk) (hk : a ≤ k) (hs : k + 1 < d.size) : RotOf a (a + 1) (k + 2) d (swp dk k (k + 1)) := by
  refine ⟨by rw [size_swp]; exact h.1, fun t => ?_⟩
  have hs1 := h.1
  by_cases e1 : t = k + 1
  · subst e1
    rw [swp_right _ _ _ (by omega), h.2]; congr 1; unfold rotIx; repeat' split
    all_goals omega
  · by_cases e2 : t = k
    · subst e2
      rw [swp_left _ _ _ (by omega) (by omega), h.2]; congr 1; unfold rotIx; repeat' split
      all_goals omega
    · rw [swp_other _ _ _ _ e2 e1, h.2]; congr 1; unfold rotIx; repeat' split
      all_goals omega
theorem RotOf.down {k m : Nat} {d dk : Array Int} (h : RotOf k m (m + 1) d dk) (hk : k ≤ m) (hk0 : 0 < k) (hs : m < d.size) : RotOf (k - 1) m (m + 1) d (swp dk k (k - 1)) := by
  refine ⟨by rw [size_swp]; exact h.1, fun t => ?_⟩
  have hs1 := h.1
  by_cases e1 : t = k - 1
  · subst e1
    rw [swp_right _ _ _ (by omega), h.2]; congr 1; unfold rotIx; repeat' split
    all_goals omega
  · by_cases e2 : t = k
    · subst e2
      rw [swp_left _ _ _ (by omega) (by omega), h.2]; congr 1; unfold rotIx; repeat' split
      all_goals omega
    · rw [swp_other _ _ _ _ e2 e1, h.2]; congr 1; unfold rotIx; repeat' split
      all_goals omega

theorem permV {V : Int → Prop} {a b N : Nat} {d d' : Array Int} (h : PermIn a b d d') (hN : d.size = N) (hb : b ≤ N) (hV : ∀ t, t < N → V d[t]!) : ∀ t, t < N → V d'[t]! := by
  intro t ht
  by_cases c : a ≤ t ∧ t < b
  · exact permIn_all d d' a b V (by omega) h (fun i _ h2 => hV i (by omega)) t c.1 c.2
  · rw [h.2.1 t (by omega)]; exact hV t ht

theorem rowW_again (w : World) (blk off n m : Nat) (d d' : Array Int) (h : d'.size = d.size) : rowW (rowW w blk off n d) blk off m d' = rowW w blk off (n + m) d' :=
  putRow_ahead_putRow _ _ _ _ _ _ _ _ h
theorem rowW_holds {w : World} {blk off n : Nat} {d0 d : Array Int} (h : Holds (Value.int .i64) w blk off d0) (hs : d.size = d0.size) : Holds (Value.int .i64) (rowW w blk off n d) blk off d :=
  holds_putRow _ _ _ _ d0 d (holds_ahead _ _ _ _ _ _ h) hs

/-- Where the search for the first part's one number stands. -/
def FoundA (κ : Int → Int) (d : Array Int) (a m b i j : Nat) : Prop := (i = m ∨ κ d[a]! < κ d[i - 1]!) ∧ (j = b ∨ ¬ κ d[a]! < κ d[j]!)
/-- Where the search for the second part's one number stands. -/
def FoundB (κ : Int → Int) (d : Array Int) (a m i j : Nat) : Prop := (i = a ∨ ¬ κ d[i - 1]! < κ d[m]!) ∧ (j = m ∨ κ d[j]! < κ d[m]!)

def SymPost (κ : Int → Int) (w : World) (blk off a b : Nat) (d : Array Int) (e : Ending) (w' : World) : Prop :=
  e = .returned (.tuple #[]) ∧ ∃ q d', w' = rowW w blk off q d' ∧ PermIn a b d d' ∧ Srt κ a b d'

set_option maxHeartbeats 8000000 in
set_option maxRecDepth 100000 in
theorem sym_first (bx : Array Value) (cf : Int → Int → Int) (κ : Int → Int) (V : Int → Prop) (blk off cap a m b n : Nat) (d0 d : Array Int) (w : World) (hH : Holds (Value.int .i64) w blk off d0)
    (hκ : ∀ x y, cf x y < 0 ↔ κ y < κ x) (hC : CmpR bx cf V blk off d0.size w) (hs : d.size = d0.size) (hV : ∀ t, t < d.size → V d[t]!) (hm : m = a + 1) (hab : m < b) (hb : b ≤ d.size) (hsz : d.size < 4611686018427387904)
    (h2 : Srt κ m b d) (hA : Apt a m b d) :
    Calls Try.prog 42 #[.slice (some ⟨blk, off, none⟩) d.size cap, .int .i64 a, .int .i64 m, .int .i64 b, .func (.func 35) #[] bx] (rowW w blk off n d) (SymPost κ w blk off a b d) := by
  have HC : Hid _ := hC
  have HV : Hid _ := hV
  have Hκ : Hid _ := hκ
  have H2 : Hid _ := h2
  have HA : Hid _ := hA
  have HS := Lib.hid hs
  have ham : a < m := by omega
  have hone : (m : Int) - (a : Int) = 1 := by omega
  have HM := Lib.hid hm
  clear hC hV hκ h2 hA hs hm
  go_enter Try.func42, Try.ntmps42
  go_wp2
  go_loopw [10, 11, 12] (fun vi vj vh wr => ∃ (i j q : Nat), vi = .int .i64 i ∧ vj = .int .i64 j ∧ m ≤ i ∧ i ≤ j ∧ j ≤ b ∧ wr = rowW w blk off q d ∧ FoundA κ d a m b i j) (fun vi vj _ _ => (intOf vj).toNat - (intOf vi).toNat)
  case atStart => exact ⟨m, b, n, rfl, rfl, Nat.le_refl _, by omega, Nat.le_refl _, rfl, ⟨Or.inl rfl, Or.inl rfl⟩⟩
  case round =>
    obtain ⟨i, j, q, rfl, rfl, hmi, hij, hjb, hwr, HI⟩ := hrel
    by_cases hlt : i < j
    · obtain ⟨h, hh⟩ : ∃ h : Nat, ((i : Int) + (j : Int)) / 2 = (h : Int) := ⟨(i + j) / 2, by omega⟩
      have hh1 : i ≤ h := by omega
      have hh2 : h < j := by omega
      obtain ⟨x, hx⟩ : ∃ x, x = d[h]! := ⟨_, rfl⟩
      obtain ⟨y, hy⟩ : ∃ y, y = d[a]! := ⟨_, rfl⟩
      have hc1 : wr.cell? ⟨blk, off + h, none⟩ = some (.int .i64 x) := by rw [hwr, hx]; exact rowW_cell hH HS.out h (by have := HS.out; omega)
      have hc2 : wr.cell? ⟨blk, off + a, none⟩ = some (.int .i64 y) := by rw [hwr, hy]; exact rowW_cell hH HS.out a (by have := HS.out; omega)
      have hcall : ∀ nq, Calls Try.prog 35 (#[.int .i64 x, .int .i64 y] ++ bx) (wr.drewN nq) fun e w' => e = .returned (.int .i64 (cf x y)) ∧ ∃ q, w' = (wr.drewN nq).drewN q := by
        intro nq
        rw [hwr, rowW_drewN, hx, hy]
        exact HC.out (q + nq) d HS.out _ _ (HV.out h (by omega)) (HV.out a (by omega))
      have HCc : Hid _ := hcall
      have HW := Lib.hid hwr
      have HX := Lib.hid hx
      have HY := Lib.hid hy
      clear hcall hwr hx hy
      by_cases hl : cf x y < 0
      · have HL := Lib.hid ((Hκ.out x y).1 hl)
        go_wp2_with fail
        go_quiet (first | (go_at_call 35; refine Calls.quiet_of (HCc.out _)))
        go_wp2
        go_roundw
        case rel => exact ⟨h + 1, j, q + nq, by go_num, rfl, by omega, by omega, hjb, by rw [HW.out]; exact rowW_drewN _ _ _ _ _ _, ⟨Or.inr (by rw [Nat.add_sub_cancel, ← HX.out, ← HY.out]; exact HL.out), HI.2⟩⟩
        case measure => simp [intOf]; omega
      · have HL := Lib.hid (fun g => hl ((Hκ.out x y).2 g))
        go_wp2_with fail
        go_quiet (first | (go_at_call 35; refine Calls.quiet_of (HCc.out _)))
        go_wp2
        go_roundw
        case rel => exact ⟨i, h, q + nq, rfl, rfl, by omega, by omega, by omega, by rw [HW.out]; exact rowW_drewN _ _ _ _ _ _, ⟨HI.1, Or.inr (by rw [← HX.out, ← HY.out]; exact HL.out)⟩⟩
        case measure => simp [intOf]; omega
    · obtain rfl : i = j := by omega
      subst hwr
      go_wp2
      go_loopw [13] (fun vk wr => ∃ (k q : Nat) (dk : Array Int), vk = .int .i64 k ∧ a ≤ k ∧ k ≤ i - 1 ∧ wr = rowW w blk off q dk ∧ RotOf a (a + 1) (k + 1) d dk ∧ PermIn a b d dk) (fun vk _ => i - (intOf vk).toNat)
      case atStart => exact ⟨a, q, d, rfl, Nat.le_refl _, by omega, rfl, RotOf.triv _ _ _ _ (Or.inr rfl), permIn_refl _ _ _⟩
      case round =>
        obtain ⟨k, q2, dk, rfl, hak, hki, hwr, hR, hP⟩ := hrel
        have HR := Lib.hid hR
        have HP := Lib.hid hP
        have hsk : dk.size = d.size := hR.1
        clear hR hP
        by_cases hk : k < i - 1
        · have hkI : (k : Int) < (i : Int) - 1 := by omega
          obtain ⟨x, hx⟩ : ∃ x, x = dk[k]! := ⟨_, rfl⟩
          obtain ⟨y, hy⟩ : ∃ y, y = dk[k + 1]! := ⟨_, rfl⟩
          obtain ⟨k1, hk1⟩ : ∃ k1, k1 = k + 1 := ⟨_, rfl⟩
          have hc1 : wr.cell? ⟨blk, off + k, none⟩ = some (.int .i64 x) := by rw [hwr, hx]; exact rowW_cell hH (by rw [hsk]; exact HS.out) k (by have := HS.out; omega)
          have hc2 : wr.cell? ⟨blk, off + (k + 1), none⟩ = some (.int .i64 y) := by rw [hwr, hy]; exact rowW_cell hH (by rw [hsk]; exact HS.out) (k + 1) (by have := HS.out; omega)
          have hf1 : wr.frozen? ⟨blk, off + k, none⟩ = false := by rw [hwr]; exact rowW_frozen hH k (by have := HS.out; omega)
          have hf2 : wr.frozen? ⟨blk, off + (k + 1), none⟩ = false := by rw [hwr]; exact rowW_frozen hH (k + 1) (by have := HS.out; omega)
          have HW := Lib.hid hwr
          have HX := Lib.hid hx
          have HY := Lib.hid hy
          clear hwr hx hy hk1
          go_wp2_with fail
          go_region
          all_goals go_wp2
          go_roundw
          case rel =>
            refine ⟨k + 1, q2 + 1, swp dk k (k + 1), by go_num, by omega, by omega, ?_, HR.out.up hak (by omega), permIn_trans _ _ _ _ _ HP.out (swp_permIn _ _ _ _ _ hak (by omega) (by omega) (by omega) (by omega))⟩
            rw [HW.out, HX.out, HY.out]
            exact rowW_swap w blk off q2 1 dk k (k + 1) (by omega) (by omega)
          case measure => simp [intOf]; omega
        · obtain rfl : k = i - 1 := by omega
          have hkI : ¬ ((i - 1 : Nat) : Int) < (i : Int) - 1 := by omega
          subst hwr
          go_wp2_with fail
          go_end0
          refine ⟨rfl, q2, dk, rfl, HP.out, ?_⟩
          have hr := HR.out
          have hm := HM.out
          subst hm
          rw [show i - 1 + 1 = i from by omega] at hr
          exact merge_first H2.out HA.out hmi hjb HI.1 HI.2 hr

end Go.Proofs.Ytbjjogbnndmmmaa

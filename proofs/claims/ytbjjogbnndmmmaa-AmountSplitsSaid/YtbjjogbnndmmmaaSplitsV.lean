/-
  chattellaw01.AmountSplits's walk, where parts are told.
-/
import Derived.Test.YtbjjogbnndmmmaaSplitsW
namespace Go.Proofs.Ytbjjogbnndmmmaa
open Go.RowKit Go.Sort
set_option linter.unusedVariables false

/-- The parts as a list. -/
def partsS (T : Int) (l : List Int) (d : Array Int) : List Int := (List.range l.length).map fun t => sgn (decide (T < 0)) (partF (absI T) l d t)
theorem partsS_len (T : Int) (l : List Int) (d : Array Int) : (partsS T l d).length = l.length := by simp [partsS]
theorem partsS_at (T : Int) (l : List Int) (d : Array Int) {t : Nat} (ht : t < l.length) : (partsS T l d).getD t 0 = sgn (decide (T < 0)) (partF (absI T) l d t) := by
  rw [List.getD_eq_getElem?_getD]; simp [partsS, ht]

/-- Where the turning of what is wanted stands. -/
structure WantI (w3 wx : World) (g n i : Nat) (p q : Nat → Int) : Prop where
  bel : Below w3.heap.size w3 wx
  par : ∀ t, t < n → wx.cell? ⟨g, t, none⟩ = some (.int .i64 (if t < i then q t else p t))
  frz : ∀ t, t < n → wx.frozen? ⟨g, t, none⟩ = false
theorem WantI.step {w3 wx : World} {g n i : Nat} {p q : Nat → Int} (h : WantI w3 wx g n i p q) (hi : i < n) (hg : w3.heap.size ≤ g) {x : Int} (hx : x = q i) : WantI w3 (wx.setCell ⟨g, i, none⟩ (.int .i64 x)) g n (i + 1) p q := by
  refine ⟨h.bel.setCell hg _, fun t ht => ?_, fun t ht => by simpa using h.frz t ht⟩
  by_cases e : t = i
  · subst e; rw [cell_same (h.par t ht), if_pos (by omega), hx]
  · rw [cell_other (addr_ne_off (fun k => e k.symm)), h.par t ht]
    by_cases c : t < i
    · rw [if_pos c, if_pos (by omega)]
    · rw [if_neg c, if_neg (by omega)]

set_option maxHeartbeats 4000000 in
set_option maxRecDepth 100000 in
theorem splits_ok (T : Int) (l : List Int) (b o cap : Nat) (w : World) (hb : b < w.heap.size) (hr : Row w b o l) (hi : InI l) (hnn : NonNeg l) (h0 : 0 < l.length) (h64 : l.length ≤ 64) (hS : 0 < sumL l) (hS1 : sumL l ≤ 9223372036854775807)
    (hT : -9223372036854775807 ≤ T) (hT1 : T ≤ 9223372036854775807) :
    Calls Try.prog 3 #[.int .i64 T, .slice (some ⟨b, o, none⟩) l.length cap] w fun e w' => e = .returned (.bool true) ∧ Below w.heap.size w w' := by
  have H := Lib.hid (split_ok T l b o cap w hb hr hi hnn h0 h64 hS hS1 hT hT1)
  have HR := Lib.hid hr
  have HI := Lib.hid hi
  have HNn := Lib.hid hnn
  have HB := Lib.hid hb
  have HS1 := Lib.hid hS1
  obtain ⟨S, hSe⟩ : ∃ S, S = sumL l := ⟨_, rfl⟩
  rw [← hSe] at hS
  have HSe := Lib.hid hSe
  have hS0 : (S == 0) = false := by simp; omega
  clear hr hi hnn hb hS1 hSe
  have hn1 : ¬ l.length < 1 := by omega
  go_enter Try.func3, Try.ntmps3
  go_wp2_with fail
  refine H.out.mono ?_
  rintro e w1 ⟨rfl, d, hd, hb1, hsz, hp⟩
  have HD := Lib.hid hd
  have HB1 := Lib.hid hb1
  have HP := Lib.hid hp
  have HSz := Lib.hid hsz
  clear hd hb1 hp hsz
  go_wp2_with fail
  go_loop [7] (fun vi => ∃ i : Nat, i ≤ l.length ∧ vi = .int .i64 i) (fun vi => l.length - (intOf vi).toNat)
  case atStart => exact ⟨0, Nat.zero_le _, rfl⟩
  case round =>
    obtain ⟨i, hi, rfl⟩ := hrel
    by_cases hlt : i < l.length
    · obtain ⟨x, hx⟩ : ∃ x, x = l.getD i 0 := ⟨_, rfl⟩
      have hc : w1.cell? ⟨b, o + i, none⟩ = some (.int .i64 x) := by rw [hx]; exact (HB1.out.cell (p := ⟨b, o + i, none⟩) HB.out).trans (HR.out i hlt)
      have i1 : (i : Int) < (l.length : Int) := by omega
      have hx0 : 0 ≤ x := by rw [hx]; exact HNn.out i
      clear hx
      go_wp2_with fail
      go_round
      case rel => exact ⟨i + 1, by omega, by go_num⟩
      case measure => simp [intOf]; omega
    · have hin : ¬ (i : Int) < (l.length : Int) := by omega
      have HSum := Lib.hid (rsum_any l (some ⟨b, o, none⟩) cap w1 (Or.inr ⟨b, o, rfl, Nat.lt_of_lt_of_le HB.out HB1.out.size, fun t ht => (HB1.out.cell (p := ⟨b, o + t, none⟩) HB.out).trans (HR.out t ht)⟩) HI.out (by omega))
      rw [← HSe.out] at HSum
      go_wp2_with fail
      refine HSum.out.mono ?_
      rintro e w2 ⟨⟨v, rfl, hv⟩, hb2⟩
      have HInt := Lib.hid (rint_any S v w2 hv (int_lim (by omega) (by rw [HSe.out]; exact HS1.out)))
      have HB2 := Lib.hid (HB1.out.trans (hb2.mono HB1.out.size))
      have HB12 := Lib.hid hb2
      have HFit : Hid (FitsZ S) := Lib.hid ⟨by omega, by rw [HSe.out]; exact HS1.out⟩
      clear hv hb2
      go_wp2_with fail
      refine HInt.out.mono ?_
      rintro e w3 ⟨h1, _, hb3⟩
      obtain rfl := h1 HFit.out
      clear h1
      have HB3 := Lib.hid (HB2.out.trans (hb3.mono HB2.out.size))
      have HB13 := Lib.hid (HB12.out.trans (hb3.mono HB12.out.size))
      have HRS := Lib.hid (rsplit_any (absI T) l b o cap d w3 (Nat.lt_of_lt_of_le HB.out HB3.out.size) (fun t ht => (HB3.out.cell (p := ⟨b, o + t, none⟩) HB.out).trans (HR.out t ht)) HI.out HNn.out h0 h64 (by rw [← HSe.out]; exact hS) HS1.out (by unfold absI; omega) (by unfold absI; omega) HD.out)
      clear hb3
      rcases Int.lt_or_le T 0 with hneg | hpos
      · rw [absI_neg hneg] at HRS
        go_wp2_with fail
        refine HRS.out.mono ?_
        rintro e w4 ⟨⟨g, c4, rfl, hg, hw⟩, hb4⟩
        have HW0 : Hid (WantI w3 w4 g l.length 0 (partF (absI T) l d) (fun t => sgn (decide (T < 0)) (partF (absI T) l d t))) := Lib.hid ⟨hb4, fun t ht => by rw [if_neg (by omega)]; rw [absI_neg hneg]; exact (hw t ht).1, fun t ht => (hw t ht).2⟩
        have HGe := Lib.hid hg
        clear hg hw hb4
        go_wp2_with fail
        go_loopw [12] (fun vi wx => ∃ i : Nat, i ≤ l.length ∧ vi = .int .i64 i ∧ WantI w3 wx g l.length i (partF (absI T) l d) (fun t => sgn (decide (T < 0)) (partF (absI T) l d t))) (fun vi _ => l.length - (intOf vi).toNat)
        case atStart => exact ⟨0, Nat.zero_le _, rfl, HW0.out⟩
        case round =>
          obtain ⟨k, hk, rfl, hwi⟩ := hrel
          by_cases hlk : k < l.length
          · obtain ⟨y, hy⟩ : ∃ y, y = partF (absI T) l d k := ⟨_, rfl⟩
            have hcy : wr.cell? ⟨g, k, none⟩ = some (.int .i64 y) := by rw [hwi.par k hlk, if_neg (by omega), hy]
            have hfy := hwi.frz k hlk
            have hyb : 0 ≤ y ∧ y ≤ absI T := by rw [hy]; exact partF_bd (by unfold absI; omega) (by rw [← HSe.out]; exact hS) HNn.out hlk
            have hy1 : y ≤ 9223372036854775807 := by have := hyb.2; unfold absI at this; omega
            have hy0 := hyb.1
            have HStep := Lib.hid (fun x (hx : x = sgn (decide (T < 0)) y) => hwi.step hlk HGe.out (x := x) (by rw [hx, hy]))
            have i2 : (k : Int) < (l.length : Int) := by omega
            clear hy hwi hyb
            go_wp2_with fail
            go_roundw
            case rel => exact ⟨k + 1, by omega, by go_num, HStep.out _ (by rw [decide_eq_true hneg]; rfl)⟩
            case measure => simp [intOf]; omega
          · obtain rfl : k = l.length := by omega
            have hrow1 : Row wr w.heap.size 0 (partsS T l d) := fun t ht => by
              rw [partsS_len] at ht
              rw [partsS_at T l d ht, hwi.bel.cell (p := ⟨w.heap.size, 0 + t, none⟩) (Nat.lt_of_lt_of_le HSz.out HB13.out.size), HB13.out.cell (p := ⟨w.heap.size, 0 + t, none⟩) HSz.out]
              exact HP.out t ht
            have hrow2 : Row wr g 0 (partsS T l d) := fun t ht => by
              rw [partsS_len] at ht
              rw [partsS_at T l d ht, Nat.zero_add, hwi.par t ht, if_pos ht]
            have hI := ints_row (partsS T l d) (partsS T l d) w.heap.size 0 l.length g 0 c4 wr hrow1 hrow2 (by rw [partsS_len]; omega) (by rw [partsS_len]; omega)
            rw [partsS_len, decide_eq_true rfl] at hI
            have HI2 := Lib.hid hI
            have HB4 := Lib.hid (HB3.out.trans (hwi.bel.mono HB3.out.size))
            clear hrow1 hrow2 hI hwi hk hlk
            go_wp2_with fail
            refine HI2.out.mono ?_
            rintro e w5 ⟨rfl, q5, rfl⟩
            go_wp2_with (go_at_call 4; refine (awake_any _).mono ?_; rintro e w' ⟨rfl, hb⟩)
            go_ret
            exact ⟨rfl, HB4.out.trans (((drewN_below' wr q5).trans ((‹Below _ _ _›).mono (drewN_below' wr q5).size)).mono HB4.out.size)⟩
      · rw [absI_nonneg hpos] at HRS
        go_wp2_with fail
        refine HRS.out.mono ?_
        rintro e w4 ⟨⟨g, c4, rfl, hg, hw⟩, hb4⟩
        have HW0 : Hid (WantI w3 w4 g l.length 0 (partF (absI T) l d) (fun t => sgn (decide (T < 0)) (partF (absI T) l d t))) := Lib.hid ⟨hb4, fun t ht => by rw [if_neg (by omega)]; rw [absI_nonneg hpos]; exact (hw t ht).1, fun t ht => (hw t ht).2⟩
        have HGe := Lib.hid hg
        clear hg hw hb4
        go_wp2_with fail
        go_loopw [12] (fun vi wx => ∃ i : Nat, i ≤ l.length ∧ vi = .int .i64 i ∧ WantI w3 wx g l.length i (partF (absI T) l d) (fun t => sgn (decide (T < 0)) (partF (absI T) l d t))) (fun vi _ => l.length - (intOf vi).toNat)
        case atStart => exact ⟨0, Nat.zero_le _, rfl, HW0.out⟩
        case round =>
          obtain ⟨k, hk, rfl, hwi⟩ := hrel
          by_cases hlk : k < l.length
          · obtain ⟨y, hy⟩ : ∃ y, y = partF (absI T) l d k := ⟨_, rfl⟩
            have hcy : wr.cell? ⟨g, k, none⟩ = some (.int .i64 y) := by rw [hwi.par k hlk, if_neg (by omega), hy]
            have hfy := hwi.frz k hlk
            have hyb : 0 ≤ y ∧ y ≤ absI T := by rw [hy]; exact partF_bd (by unfold absI; omega) (by rw [← HSe.out]; exact hS) HNn.out hlk
            have hy1 : y ≤ 9223372036854775807 := by have := hyb.2; unfold absI at this; omega
            have hy0 := hyb.1
            have HStep := Lib.hid (fun x (hx : x = sgn (decide (T < 0)) y) => hwi.step hlk HGe.out (x := x) (by rw [hx, hy]))
            have i2 : (k : Int) < (l.length : Int) := by omega
            clear hy hwi hyb
            go_wp2_with fail
            go_roundw
            case rel => exact ⟨k + 1, by omega, by go_num, HStep.out _ (by rw [decide_eq_false (by omega)]; rfl)⟩
            case measure => simp [intOf]; omega
          · obtain rfl : k = l.length := by omega
            have hrow1 : Row wr w.heap.size 0 (partsS T l d) := fun t ht => by
              rw [partsS_len] at ht
              rw [partsS_at T l d ht, hwi.bel.cell (p := ⟨w.heap.size, 0 + t, none⟩) (Nat.lt_of_lt_of_le HSz.out HB13.out.size), HB13.out.cell (p := ⟨w.heap.size, 0 + t, none⟩) HSz.out]
              exact HP.out t ht
            have hrow2 : Row wr g 0 (partsS T l d) := fun t ht => by
              rw [partsS_len] at ht
              rw [partsS_at T l d ht, Nat.zero_add, hwi.par t ht, if_pos ht]
            have hI := ints_row (partsS T l d) (partsS T l d) w.heap.size 0 l.length g 0 c4 wr hrow1 hrow2 (by rw [partsS_len]; omega) (by rw [partsS_len]; omega)
            rw [partsS_len, decide_eq_true rfl] at hI
            have HI2 := Lib.hid hI
            have HB4 := Lib.hid (HB3.out.trans (hwi.bel.mono HB3.out.size))
            clear hrow1 hrow2 hI hwi hk hlk
            go_wp2_with fail
            refine HI2.out.mono ?_
            rintro e w5 ⟨rfl, q5, rfl⟩
            go_wp2_with (go_at_call 4; refine (awake_any _).mono ?_; rintro e w' ⟨rfl, hb⟩)
            go_ret
            exact ⟨rfl, HB4.out.trans (((drewN_below' wr q5).trans ((‹Below _ _ _›).mono (drewN_below' wr q5).size)).mono HB4.out.size)⟩

end Go.Proofs.Ytbjjogbnndmmmaa

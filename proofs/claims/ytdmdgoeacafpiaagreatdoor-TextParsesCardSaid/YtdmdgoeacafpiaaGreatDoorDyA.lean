/-
  The calendar: months' first days, the month of a day, and dates. No program.
-/
import Derived.Lib.Hide
import Derived.Test.YtdmdgoeacafpiaaGreatDoorProg
import Derived.WalkKit
import Derived.PlainAid
import Derived.Below
import Derived.Outline
import Derived.WalkSmall
import Derived.BigQuiet
import Derived.Deep.QuietTactic
import Derived.RegionTactic
import Derived.Laws.IdiomStrings
import Derived.Lib.SlBytesConst
namespace Go.Proofs.YtdmdgoeacafpiaaGreatDoor
set_option linter.unusedVariables false

def leapB (y : Nat) : Bool := (y % 4 == 0 && !(y % 100 == 0)) || y % 400 == 0
def longN (y m : Nat) : Nat := if m = 2 then (if leapB y then 29 else 28) else if m = 4 ∨ m = 6 ∨ m = 9 ∨ m = 11 then 30 else 31
/-- How many leap years are ahead of a year, counted from 2000 on. -/
def lpN (y : Nat) : Nat := (y + 3) / 4 - (y + 99) / 100 + (y + 399) / 400
def lenT : List Nat := [31, 28, 31, 30, 31, 30, 31, 31, 30, 31, 30, 31]
def headN : Nat → Nat
  | 0 => 0
  | k + 1 => headN k + lenT.getD k 0
def dupN (m : Nat) : Nat := if 1 < m % 12 ∧ lpN (m / 12) < lpN (m / 12 + 1) then 1 else 0
/-- A month's first day. -/
def fstN (m : Nat) : Nat := m / 12 * 365 + lpN (m / 12) + headN (m % 12) + dupN m
/-- How many days a month has. -/
def lngN (m : Nat) : Nat := longN (2000 + m / 12) (m % 12 + 1)

theorem step_all : ∀ y < 200, ∀ k < 12, fstN (12 * y + k + 1) = fstN (12 * y + k) + lngN (12 * y + k) ∧ 28 ≤ lngN (12 * y + k) ∧ lngN (12 * y + k) ≤ 31 := by decide +kernel
theorem fst_step (m : Nat) (hm : m < 2400) : fstN (m + 1) = fstN m + lngN m ∧ 28 ≤ lngN m ∧ lngN m ≤ 31 := by
  have h := step_all (m / 12) (by omega) (m % 12) (by omega)
  rw [show 12 * (m / 12) + m % 12 = m by omega] at h
  exact h
theorem fst_zero : fstN 0 = 0 := by decide +kernel
theorem fst_end : fstN 2400 = 73049 := by decide +kernel
theorem fst_add (i : Nat) : ∀ n, i + n ≤ 2400 → fstN i + 28 * n ≤ fstN (i + n)
  | 0, _ => by simp
  | n + 1, h => by
    have h1 := fst_add i n (by omega)
    have h2 := fst_step (i + n) (by omega)
    rw [show i + (n + 1) = i + n + 1 by omega]; omega
theorem fst_mono {i j : Nat} (h : i ≤ j) (hj : j ≤ 2400) : fstN i ≤ fstN j := by
  have := fst_add i (j - i) (by omega)
  rw [show i + (j - i) = j by omega] at this; omega
theorem fst_strict {i j : Nat} (h : i < j) (hj : j ≤ 2400) : fstN i < fstN j := by
  have := fst_add i (j - i) (by omega)
  rw [show i + (j - i) = j by omega] at this; omega
theorem fst_le {m : Nat} (hm : m ≤ 2400) : fstN m ≤ 73049 := by rw [← fst_end]; exact fst_mono hm (Nat.le_refl _)

def monB (d : Nat) : Nat → Nat
  | 0 => 0
  | k + 1 => if fstN (k + 1) ≤ d then k + 1 else monB d k
/-- A day's month. -/
def mon (d : Nat) : Nat := monB d 2399
theorem monB_le (d : Nat) : ∀ k, monB d k ≤ k
  | 0 => Nat.le_refl _
  | k + 1 => by
    unfold monB
    split
    · exact Nat.le_refl _
    · have := monB_le d k; omega
theorem monB_fst (d : Nat) : ∀ k, fstN (monB d k) ≤ d
  | 0 => by show fstN 0 ≤ d; rw [fst_zero]; omega
  | k + 1 => by
    unfold monB
    split
    · assumption
    · exact monB_fst d k
theorem monB_next (d : Nat) (k : Nat) : d < fstN (k + 1) → d < fstN (monB d k + 1) := by
  induction k with
  | zero => intro h; rw [show monB d 0 = 0 from rfl]; exact h
  | succ k ih =>
    intro h
    by_cases c : fstN (k + 1) ≤ d
    · rw [show monB d (k + 1) = k + 1 by rw [monB, if_pos c]]; exact h
    · rw [show monB d (k + 1) = monB d k by rw [monB, if_neg c]]; exact ih (Nat.lt_of_not_le c)
theorem mon_lt (d : Nat) : mon d < 2400 := by have := monB_le d 2399; unfold mon; omega
theorem mon_fst (d : Nat) : fstN (mon d) ≤ d := monB_fst d 2399
theorem mon_next {d : Nat} (h : d < 73049) : d < fstN (mon d + 1) := monB_next d 2399 (by rw [fst_end]; exact h)
theorem mon_eq {d m : Nat} (hm : m < 2400) (h1 : fstN m ≤ d) (h2 : d < fstN (m + 1)) : mon d = m := by
  have hd : d < 73049 := Nat.lt_of_lt_of_le h2 (fst_le (by omega))
  have a := mon_fst d
  have b := mon_next hd
  have c := mon_lt d
  rcases Nat.lt_trichotomy (mon d) m with h | h | h
  · have := fst_mono (i := mon d + 1) (j := m) (by omega) (by omega); omega
  · exact h
  · have := fst_mono (i := m + 1) (j := mon d) (by omega) (by omega); omega
/-- A month's days. -/
theorem mon_in {d m : Nat} (hm : m < 2400) (h1 : fstN m ≤ d) (h2 : d < fstN m + lngN m) : mon d = m :=
  mon_eq hm h1 (by rw [(fst_step m hm).1]; exact h2)
theorem mon_long {d : Nat} (h : d < 73049) : d < fstN (mon d) + lngN (mon d) := by
  have := mon_next h
  rw [(fst_step _ (mon_lt d)).1] at this; exact this
/-- A guess for a day's month that is not behind it. -/
theorem lp_le (y : Nat) (hy : y ≤ 200) : lpN y ≤ y := by unfold lpN; omega
theorem mon_guess {d : Nat} (h : d < 73049) : fstN (d / 366 * 12) ≤ d ∧ d / 366 * 12 < 2400 := by
  have h1 : d / 366 ≤ 199 := by omega
  refine ⟨?_, by omega⟩
  have h2 := lp_le (d / 366) (by omega)
  have e : fstN (d / 366 * 12) = d / 366 * 365 + lpN (d / 366) := by
    unfold fstN dupN
    rw [show d / 366 * 12 / 12 = d / 366 by omega, show d / 366 * 12 % 12 = 0 by omega, if_neg (by omega), show headN 0 = 0 from rfl, Nat.add_zero]
  omega

/-- A day's date. -/
def yrN (d : Nat) : Nat := 2000 + mon d / 12
def moN (d : Nat) : Nat := mon d % 12 + 1
def daN (d : Nat) : Nat := d - fstN (mon d) + 1
/-- Is there such a date? -/
def IsDate (y m d : Int) : Prop := 2000 ≤ y ∧ y ≤ 2199 ∧ 1 ≤ m ∧ m ≤ 12 ∧ 1 ≤ d ∧ d ≤ longN y.toNat m.toNat
instance (y m d : Int) : Decidable (IsDate y m d) := by unfold IsDate; infer_instance
/-- A date's month, counted from the first one on, and its day. -/
def atN (y m : Int) : Nat := 12 * (y.toNat - 2000) + m.toNat - 1
def dayN (y m d : Int) : Nat := fstN (atN y m) + d.toNat - 1

theorem long_lng {y m : Int} (h0 : 2000 ≤ y) (h1 : y ≤ 2199) (h2 : 1 ≤ m) (h3 : m ≤ 12) : longN y.toNat m.toNat = lngN (atN y m) ∧ atN y m < 2400 := by
  unfold lngN atN
  refine ⟨?_, by omega⟩
  rw [show 2000 + (12 * (y.toNat - 2000) + m.toNat - 1) / 12 = y.toNat by omega, show (12 * (y.toNat - 2000) + m.toNat - 1) % 12 + 1 = m.toNat by omega]
theorem day_date {y m d : Int} (h : IsDate y m d) : dayN y m d < 73049 ∧ (yrN (dayN y m d) : Int) = y ∧ (moN (dayN y m d) : Int) = m ∧ (daN (dayN y m d) : Int) = d := by
  obtain ⟨h0, h1, h2, h3, h4, h5⟩ := h
  obtain ⟨e, hm⟩ := long_lng h0 h1 h2 h3
  rw [e] at h5
  have hs := fst_step _ hm
  have hle := fst_le (m := atN y m + 1) (by omega)
  have he : mon (dayN y m d) = atN y m := mon_in hm (by unfold dayN; omega) (by unfold dayN; omega)
  refine ⟨by unfold dayN; omega, ?_, ?_, ?_⟩
  · unfold yrN; rw [he]; unfold atN; omega
  · unfold moN; rw [he]; unfold atN; omega
  · unfold daN; rw [he]; unfold dayN; omega
theorem date_is {d : Nat} (h : d < 73049) : IsDate (yrN d) (moN d) (daN d) ∧ dayN (yrN d) (moN d) (daN d) = d := by
  have a := mon_fst d
  have b := mon_long h
  have c := mon_lt d
  have hat : atN (yrN d : Int) (moN d : Int) = mon d := by unfold atN yrN moN; omega
  have hl := long_lng (y := yrN d) (m := moN d) (by unfold yrN; omega) (by unfold yrN; omega) (by unfold moN; omega) (by unfold moN; omega)
  refine ⟨⟨by unfold yrN; omega, by unfold yrN; omega, by unfold moN; omega, by unfold moN; omega, by unfold daN; omega, ?_⟩, ?_⟩
  · rw [hl.1, hat]; unfold daN; omega
  · unfold dayN; rw [hat]; unfold daN; omega

end Go.Proofs.YtdmdgoeacafpiaaGreatDoor

namespace Go.Proofs.YtdmdgoeacafpiaaGreatDoor
open Go.RowKit Go.Lib
set_option linter.unusedVariables false

/-- The table of months' lengths. -/
structure LenW (w : World) : Prop where
  at_ : ∀ k, k < 12 → w.cell? ⟨6, k, none⟩ = some (.int .i64 (lenT.getD k 0))
theorem cell_lt {w : World} {b i : Nat} {v : Value} (h : w.cell? ⟨b, i, none⟩ = some v) : b < w.heap.size := by
  rcases Nat.lt_or_ge b w.heap.size with g | g
  · exact g
  · simp [World.cell?, Array.getElem?_eq_none g] at h
theorem LenW.keep {w w' : World} (h : LenW w) (hb : Below w.heap.size w w') : LenW w' :=
  ⟨fun k hk => (hb.cell (p := ⟨_, k, none⟩) (cell_lt (h.at_ k hk))).trans (h.at_ k hk)⟩
theorem below_drew (w : World) (n : Nat) : Below w.heap.size w (w.drewN n) := ⟨rfl, rfl, rfl, Nat.le_refl _, fun _ _ => rfl⟩
theorem LenW.drewN {w : World} (h : LenW w) (n : Nat) : LenW (w.drewN n) := h.keep (below_drew w n)

theorem dthere_yes (d : Nat) (w : World) (h : d < 73049) : Calls Tryz.prog 153 #[.int .i64 d] w fun e w' => e = .returned (.bool true) ∧ w = w' := by
  have h0 : (0 : Int) ≤ (d : Int) := by omega
  have h1 : (d : Int) ≤ 73048 := by omega
  go_enter Tryz.func153, Tryz.ntmps153
  go_wp2_with fail
  go_ret
  exact ⟨rfl, rfl⟩
theorem dthere_no (d : Int) (w : World) (h : d < 0 ∨ 73048 < d) : Calls Tryz.prog 153 #[.int .i64 d] w fun e w' => e = .returned (.bool false) ∧ w = w' := by
  rcases h with h | h
  · go_enter Tryz.func153, Tryz.ntmps153
    go_wp2_with fail
    go_ret
    exact ⟨rfl, rfl⟩
  · have h0 : 0 ≤ d := by omega
    have h1 : ¬ d ≤ 73048 := by omega
    go_enter Tryz.func153, Tryz.ntmps153
    go_wp2_with fail
    go_ret
    exact ⟨rfl, rfl⟩

theorem dret_int {a b : Int} (h : a = b) : Ending.returned (.int .i64 a) = .returned (.int .i64 b) := by rw [h]
theorem ediv_of {a b : Int} (h : 0 ≤ a) : a.tdiv b = a / b := Int.tdiv_eq_ediv_of_nonneg h
theorem leaps_any (y : Nat) (hy : y ≤ 1000) (w : World) : Calls Tryz.prog 154 #[.int .i64 y] w fun e w' => e = .returned (.int .i64 (lpN y)) ∧ w = w' := by
  have h1 : ((y : Int) + 3).tdiv 4 = ((y : Int) + 3) / 4 := ediv_of (by omega)
  have h2 : ((y : Int) + 99).tdiv 100 = ((y : Int) + 99) / 100 := ediv_of (by omega)
  have h3 : ((y : Int) + 399).tdiv 400 = ((y : Int) + 399) / 400 := ediv_of (by omega)
  have hl : ((lpN y : Nat) : Int) = ((y : Int) + 3) / 4 - ((y : Int) + 99) / 100 + ((y : Int) + 399) / 400 := by unfold lpN; omega
  rw [hl]
  clear hl
  go_enter Tryz.func154, Tryz.ntmps154
  go_wp2_with fail
  go_ret
  exact ⟨dret_int (by omega), rfl⟩

end Go.Proofs.YtdmdgoeacafpiaaGreatDoor

namespace Go.Proofs.YtdmdgoeacafpiaaGreatDoor
open Go.RowKit Go.Lib
set_option linter.unusedVariables false

theorem lp_1000 (y : Nat) (hy : y ≤ 1000) : lpN y ≤ 1000 := by unfold lpN; omega
theorem len_31 : ∀ k < 12, lenT.getD k 0 ≤ 31 := by decide
theorem head_le : ∀ k ≤ 12, headN k ≤ 372 := by decide

set_option maxHeartbeats 1000000 in
set_option maxRecDepth 100000 in
theorem dfirst_any (m : Nat) (hm : m ≤ 2400) (w : World) (L : LenW w) : Calls Tryz.prog 137 #[.int .i64 m] w fun e w' => e = .returned (.int .i64 (fstN m)) ∧ w = w' := by
  have HT := Lib.hid L
  obtain ⟨y, hy⟩ : ∃ y, y = m / 12 := ⟨_, rfl⟩
  obtain ⟨k, hk⟩ : ∃ k, k = m % 12 := ⟨_, rfl⟩
  have h1 : (m : Int).tdiv 12 = (y : Int) := by rw [ediv_of (by omega)]; omega
  have h2 : (m : Int).tmod 12 = (k : Int) := by rw [Int.tmod_eq_emod_of_nonneg (by omega)]; omega
  have HF : Hid (fstN m = y * 365 + lpN y + headN k + (if 1 < k ∧ lpN y < lpN (y + 1) then 1 else 0)) := Lib.hid (by unfold fstN dupN; rw [hy, hk])
  have hy2 : y ≤ 200 := by omega
  have hk2 : k < 12 := by omega
  have HA : Hid (∀ w, Calls Tryz.prog 154 #[.int .i64 (y : Int)] w fun e w' => e = .returned (.int .i64 (lpN y)) ∧ w = w') := Lib.hid (fun w => leaps_any y (by omega) w)
  have HB : Hid (∀ w, Calls Tryz.prog 154 #[.int .i64 ((y : Int) + 1)] w fun e w' => e = .returned (.int .i64 (lpN (y + 1))) ∧ w = w') := Lib.hid (fun w => leaps_any (y + 1) (by omega) w)
  have a1 := lp_1000 y (by omega)
  have b1 := lp_1000 (y + 1) (by omega)
  generalize fstN m = R at HF ⊢
  generalize lpN (y + 1) = b at HB HF b1
  generalize lpN y = a at HA HF a1
  have HK := Lib.hid hk2
  clear L hy hk
  go_enter Tryz.func137, Tryz.ntmps137
  go_wp2_with fail
  refine (HA.out _).mono ?_
  rintro e w1 ⟨rfl, rfl⟩
  go_wp2_with fail
  go_loop [4, 5, 15] (fun vd _ vi => ∃ j : Nat, j ≤ k ∧ vi = .int .i64 j ∧ vd = .int .i64 ((y : Int) * 365 + a + headN j)) (fun _ _ vi => 12 - (RowKit.intOf vi).toNat)
  case atStart => exact ⟨0, by omega, rfl, rfl⟩
  case round =>
    obtain ⟨j, hj, rfl, rfl⟩ := hrel
    have h372 := head_le j (by omega)
    by_cases hlt : j < k
    · have hc := HT.out.at_ j (by omega)
      have hq1 := len_31 j (by omega)
      have HH : Hid (headN (j + 1) = headN j + lenT.getD j 0) := Lib.hid rfl
      generalize headN j = H at HH h372 ⊢
      generalize lenT.getD j 0 = q at HH hc hq1
      have i0 : (0 : Int) ≤ (j : Int) := by omega
      have i1 : (j : Int) < 12 := by omega
      have i2 : (j : Int) < (k : Int) := by omega
      go_wp2_with fail
      go_round
      case rel => exact ⟨j + 1, by omega, by go_num, by rw [HH.out]; go_num⟩
      case measure => simp [RowKit.intOf]; omega
    · obtain rfl : j = k := by omega
      clear hlt hj hk2
      generalize headN j = H at HF h372 ⊢
      by_cases c1 : 1 < j
      · have C1 := Lib.hid c1
        have c1' : (1 : Int) < (j : Int) := by omega
        by_cases c2 : a < b
        · have HR : Hid (R = y * 365 + a + H + 1) := Lib.hid (by rw [HF.out, if_pos ⟨C1.out, c2⟩])
          have c2' : (a : Int) < (b : Int) := by omega
          clear c1 c2 HF
          go_wp2_with fail
          refine (HB.out _).mono ?_
          rintro e w1 ⟨rfl, rfl⟩
          go_wp2_with fail
          refine (HA.out _).mono ?_
          rintro e w1 ⟨rfl, rfl⟩
          go_wp2_with fail
          go_ret
          exact ⟨dret_int (by rw [HR.out]; omega), rfl⟩
        · have HR : Hid (R = y * 365 + a + H) := Lib.hid (by rw [HF.out, if_neg (by omega)]; rfl)
          have c2' : ¬ (a : Int) < (b : Int) := by omega
          clear c1 c2 HF
          go_wp2_with fail
          refine (HB.out _).mono ?_
          rintro e w1 ⟨rfl, rfl⟩
          go_wp2_with fail
          refine (HA.out _).mono ?_
          rintro e w1 ⟨rfl, rfl⟩
          go_wp2_with fail
          go_ret
          exact ⟨dret_int (by rw [HR.out]; omega), rfl⟩
      · have HR : Hid (R = y * 365 + a + H) := Lib.hid (by rw [HF.out, if_neg (by omega)]; rfl)
        have c1' : ¬ (1 : Int) < (j : Int) := by omega
        clear c1 HF
        go_wp2_with fail
        go_ret
        exact ⟨dret_int (by rw [HR.out]; omega), rfl⟩

theorem mon_start {d : Nat} (h : d < 73049) : d / 366 * 12 ≤ mon d := by
  obtain ⟨h1, h2⟩ := mon_guess h
  have h3 := mon_next h
  rcases Nat.lt_or_ge (mon d) (d / 366 * 12) with c | c
  · have := fst_mono (i := mon d + 1) (j := d / 366 * 12) (by omega) (by omega); omega
  · exact c
set_option maxHeartbeats 1000000 in
set_option maxRecDepth 100000 in
theorem month_any (d : Nat) (hd : d < 73049) (w : World) (L : LenW w) : Calls Tryz.prog 136 #[.int .i64 d] w fun e w' => e = .returned (.tuple #[.int .i64 (mon d), .int .i64 0]) ∧ w = w' := by
  have HT := Lib.hid (fun w => dthere_yes d w hd)
  have HS := Lib.hid (mon_start hd)
  have HF1 := Lib.hid (fun m (h : m < mon d) => (Nat.le_trans (fst_mono (i := m + 1) (j := mon d) (by omega) (by have := mon_lt d; omega)) (mon_fst d) : fstN (m + 1) ≤ d))
  have HF2 := Lib.hid (mon_next hd)
  have HB := mon_lt d
  have HC : Hid (∀ m : Nat, m < 2400 → Calls Tryz.prog 137 #[.int .i64 ((m : Int) + 1)] w fun e w' => e = .returned (.int .i64 (fstN (m + 1))) ∧ w = w') := Lib.hid (fun m h => dfirst_any (m + 1) (by omega) w L)
  obtain ⟨q, hq⟩ : ∃ q, q = d / 366 := ⟨_, rfl⟩
  have h3 : (d : Int).tdiv 366 = (q : Int) := by rw [ediv_of (by omega)]; omega
  have hq2 : q ≤ 200 := by omega
  rw [← hq] at HS
  generalize mon d = M at *
  clear L hq
  go_enter Tryz.func136, Tryz.ntmps136
  go_wp2_with fail
  refine (HT.out _).mono ?_
  rintro e w1 ⟨rfl, rfl⟩
  go_wp2_with fail
  go_loop [4] (fun vm => ∃ m : Nat, m ≤ M ∧ vm = .int .i64 m) (fun vm => 2400 - (RowKit.intOf vm).toNat)
  case atStart => exact ⟨q * 12, HS.out, by go_num⟩
  case round =>
    obtain ⟨m, hm, rfl⟩ := hrel
    have HC1 := Lib.hid (HC.out m (by omega))
    by_cases hlt : m < M
    · have hle := HF1.out m hlt
      generalize fstN (m + 1) = F at *
      have hle' : (F : Int) ≤ (d : Int) := by omega
      go_wp2_with fail
      refine HC1.out.mono ?_
      rintro e w1 ⟨rfl, rfl⟩
      go_wp2_with fail
      go_round
      case rel => exact ⟨m + 1, by omega, by go_num⟩
      case measure => simp [RowKit.intOf]; omega
    · obtain rfl : m = M := by omega
      have hle := HF2.out
      clear HF2
      generalize fstN (m + 1) = F at *
      have hle' : ¬ (F : Int) ≤ (d : Int) := by omega
      go_wp2_with fail
      refine HC1.out.mono ?_
      rintro e w1 ⟨rfl, rfl⟩
      go_wp2_with fail
      go_ret2
      exact ⟨rfl, rfl⟩
theorem month_no (d : Int) (h : d < 0 ∨ 73048 < d) (w : World) : Calls Tryz.prog 136 #[.int .i64 d] w fun e w' => e = .returned (.tuple #[.int .i64 0, .int .i64 18]) ∧ w = w' := by
  have HT := Lib.hid (fun w => dthere_no d w h)
  clear h
  go_enter Tryz.func136, Tryz.ntmps136
  go_wp2_with fail
  refine (HT.out _).mono ?_
  rintro e w1 ⟨rfl, rfl⟩
  go_wp2_with fail
  go_ret2
  exact ⟨rfl, rfl⟩

theorem ret_i3 {a b c a' b' c' : Int} (h : a = a') (h' : b = b') (h2 : c = c') : Ending.returned (.tuple #[.int .i64 a, .int .i64 b, .int .i64 c]) = .returned (.tuple #[.int .i64 a', .int .i64 b', .int .i64 c']) := by rw [h, h', h2]
theorem ret_i2 {a b a' b' : Int} (h : a = a') (h' : b = b') : Ending.returned (.tuple #[.int .i64 a, .int .i64 b]) = .returned (.tuple #[.int .i64 a', .int .i64 b']) := by rw [h, h']
set_option maxHeartbeats 1000000 in
theorem bounds_any (m : Nat) (hm : m < 2400) (w : World) (L : LenW w) : Calls Tryz.prog 146 #[.int .i64 m] w fun e w' => e = .returned (.tuple #[.int .i64 (fstN m), .int .i64 ((fstN m : Int) + lngN m - 1), .int .i64 0]) ∧ w = w' := by
  have HA := Lib.hid (dfirst_any m (by omega) w L)
  have HC : Hid (Calls Tryz.prog 137 #[.int .i64 ((m : Int) + 1)] w fun e w' => e = .returned (.int .i64 (fstN (m + 1))) ∧ w = w') := Lib.hid (dfirst_any (m + 1) (by omega) w L)
  have hs := fst_step m hm
  have hle := fst_le (m := m + 1) (by omega)
  generalize fstN (m + 1) = F1 at *
  generalize fstN m = F at *
  generalize lngN m = N at *
  obtain ⟨e1, e2, e3⟩ := hs
  have E1 := Lib.hid e1
  have h0 : ¬ (m : Int) < 0 := by omega
  have h1 : ¬ (2400 : Int) ≤ (m : Int) := by omega
  have h2 : F ≤ 80000 := by omega
  clear L e1
  go_enter Tryz.func146, Tryz.ntmps146
  go_wp2_with fail
  refine HA.out.mono ?_
  rintro e w1 ⟨rfl, rfl⟩
  go_wp2_with fail
  refine HC.out.mono ?_
  rintro e w1 ⟨rfl, rfl⟩
  go_wp2_with fail
  go_ret3
  exact ⟨ret_i3 rfl (by rw [E1.out]; omega) rfl, rfl⟩
theorem bounds_no (m : Int) (h : m < 0 ∨ 2400 ≤ m) (w : World) : Calls Tryz.prog 146 #[.int .i64 m] w fun e w' => e = .returned (.tuple #[.int .i64 0, .int .i64 0, .int .i64 10]) ∧ w = w' := by
  rcases h with h | h
  · go_enter Tryz.func146, Tryz.ntmps146
    go_wp2_with fail
    go_ret3
    exact ⟨rfl, rfl⟩
  · have h0 : ¬ m < 0 := by omega
    go_enter Tryz.func146, Tryz.ntmps146
    go_wp2_with fail
    go_ret3
    exact ⟨rfl, rfl⟩

end Go.Proofs.YtdmdgoeacafpiaaGreatDoor

namespace Go.Proofs.YtdmdgoeacafpiaaGreatDoor
open Go.RowKit Go.Lib
set_option linter.unusedVariables false

theorem below_new (w : World) (o : Obj) : Below w.heap.size w (w.alloc o) := Below.alloc (Below.refl _ _) (Nat.le_refl _) _
theorem bel_on {w w1 w2 : World} (h : Below w.heap.size w w1) (h' : Below w1.heap.size w1 w2) : Below w.heap.size w w2 := h.trans (h'.mono h.size)

theorem ret_date {a b c a' b' c' : Int} {x : Value} (h : a = a') (h' : b = b') (h2 : c = c') : Ending.returned (.tuple #[.agg #[.int .i64 a, .int .i64 b, .int .i64 c], x]) = .returned (.tuple #[.agg #[.int .i64 a', .int .i64 b', .int .i64 c'], x]) := by rw [h, h', h2]

set_option maxHeartbeats 1000000 in
set_option maxRecDepth 100000 in
theorem dateOf_any (d : Nat) (hd : d < 73049) (w : World) (L : LenW w) : Calls Tryz.prog 108 #[.int .i64 d] w fun e w' => e = .returned (.tuple #[.agg #[.int .i64 (yrN d), .int .i64 (moN d), .int .i64 (daN d)], .int .i64 0]) ∧ Below w.heap.size w w' := by
  have L1 := L.keep (below_new w (.cells #[.int .i64 0, .int .i64 0, .int .i64 0] 151))
  have HM := Lib.hid (month_any d hd _ L1)
  have HC := Lib.hid (dfirst_any (mon d) (by have := mon_lt d; omega) _ L1)
  obtain ⟨q, hq⟩ : ∃ q, q = mon d / 12 := ⟨_, rfl⟩
  obtain ⟨k, hk⟩ : ∃ k, k = mon d % 12 := ⟨_, rfl⟩
  have h1 : (mon d : Int).tdiv 12 = (q : Int) := by rw [ediv_of (by omega)]; omega
  have h2 : (mon d : Int).tmod 12 = (k : Int) := by rw [Int.tmod_eq_emod_of_nonneg (by omega)]; omega
  have hm := mon_lt d
  have hf := mon_fst d
  have HY : Hid (yrN d = 2000 + q) := Lib.hid (by unfold yrN; rw [hq])
  have HMo : Hid (moN d = k + 1) := Lib.hid (by unfold moN; rw [hk])
  have HD : Hid (daN d = d - fstN (mon d) + 1) := Lib.hid rfl
  have q1 : q ≤ 200 := by omega
  have k1 : k ≤ 12 := by omega
  generalize fstN (mon d) = F at *
  generalize mon d = M at *
  generalize yrN d = Y at *
  generalize moN d = Mo at *
  generalize daN d = Da at *
  clear L L1 hq hk
  go_enter Tryz.func108, Tryz.ntmps108
  go_wp2_with fail
  refine HM.out.mono ?_
  rintro e w1 ⟨rfl, rfl⟩
  go_wp2_with fail
  refine HC.out.mono ?_
  rintro e w1 ⟨rfl, rfl⟩
  go_wp2_with fail
  refine bodyPost_ret (v := .tuple #[.agg #[.int .i64 (2000 + q), .int .i64 ((k : Int) + 1), .int .i64 ((d : Int) - F + 1)], .int .i64 0]) (by simp [results, Tryz.results108, go_sem]) rfl ⟨?_, below_new w _⟩
  rw [HY.out, HMo.out, HD.out]
  exact ret_date (by omega) (by omega) (by omega)
theorem dateOf_no (d : Int) (h : d < 0 ∨ 73048 < d) (w : World) : Calls Tryz.prog 108 #[.int .i64 d] w fun e w' => e = .returned (.tuple #[.agg #[.int .i64 0, .int .i64 0, .int .i64 0], .int .i64 18]) ∧ Below w.heap.size w w' := by
  have HM := Lib.hid (fun w => month_no d h w)
  clear h
  go_enter Tryz.func108, Tryz.ntmps108
  go_wp2_with fail
  refine (HM.out _).mono ?_
  rintro e w1 ⟨rfl, rfl⟩
  go_wp2_with fail
  exact bodyPost_ret (v := .tuple #[.agg #[.int .i64 0, .int .i64 0, .int .i64 0], .int .i64 18]) (by simp [results, Tryz.results108, go_sem]) rfl ⟨rfl, below_new w _⟩

/-- What Months answers. -/
def onN (d k : Nat) : Int := min ((fstN k : Int) + d - fstN (mon d)) ((fstN k : Int) + lngN k - 1)
end Go.Proofs.YtdmdgoeacafpiaaGreatDoor

namespace Go.Proofs.YtdmdgoeacafpiaaGreatDoor
open Go.RowKit Go.Lib
set_option linter.unusedVariables false

def I64d (n : Int) : Prop := -9223372036854775808 ≤ n ∧ n ≤ 9223372036854775807
/-- The month that dayOf looks for. -/
def mthI (y m : Int) : Int := wrap64 (wrap64 (wrap64 (wrap64 (y - 2000) * 12) + m) - 1)

set_option maxHeartbeats 1000000 in
set_option maxRecDepth 100000 in
theorem dayOf_far (y m d : Int) (hy : I64d y) (hm : I64d m) (hd : I64d d) (h : mthI y m < 0 ∨ 2400 ≤ mthI y m) (w : World) :
    Calls Tryz.prog 128 #[.agg #[.int .i64 y, .int .i64 m, .int .i64 d]] w fun e w' => e = .returned (.tuple #[.int .i64 0, .int .i64 18]) ∧ Below w.heap.size w w' := by
  have HB := Lib.hid (fun w => bounds_no (mthI y m) h w)
  unfold mthI at HB
  clear h
  go_enter Tryz.func128, Tryz.ntmps128
  go_wp2_with fail
  refine (HB.out _).mono ?_
  rintro e w1 ⟨rfl, rfl⟩
  go_wp2_with fail
  go_ret2
  exact ⟨rfl, below_new w _⟩

set_option maxHeartbeats 1000000 in
set_option maxRecDepth 100000 in
theorem dayOf_none (y m d : Int) (k : Nat) (hk : k < 2400) (hM : mthI y m = k) (D : Int) (hD : wrap64 (wrap64 ((fstN k : Int) + d) - 1) = D) (h : D < 0 ∨ 73048 < D) (w : World) (L : LenW w) :
    Calls Tryz.prog 128 #[.agg #[.int .i64 y, .int .i64 m, .int .i64 d]] w fun e w' => e = .returned (.tuple #[.int .i64 0, .int .i64 18]) ∧ Below w.heap.size w w' := by
  have L1 := L.keep (below_new w (.cells #[.int .i64 y, .int .i64 m, .int .i64 d] 151))
  have HB := Lib.hid (bounds_any k hk _ L1)
  have HO := Lib.hid (fun w => dateOf_no D h w)
  unfold mthI at hM
  generalize fstN k = F at *
  generalize lngN k = N at *
  clear h L L1
  go_enter Tryz.func128, Tryz.ntmps128
  go_wp2_with fail
  refine HB.out.mono ?_
  rintro e w1 ⟨rfl, rfl⟩
  go_wp2_with fail
  refine (HO.out _).mono ?_
  rintro e w2 ⟨rfl, hb⟩
  have HW := Lib.hid (bel_on (below_new w _) hb)
  have hc0 := hb.cell (p := ⟨w.heap.size, 0, none⟩) (by simp)
  clear hb hc0
  go_wp2_with fail
  go_ret2
  exact ⟨rfl, bel_on HW.out (below_new w2 _)⟩

theorem box3 {w w2 : World} {x y z : Value} {t : TypeId} (hb : Below (w.alloc (.cells #[x, y, z] t)).heap.size (w.alloc (.cells #[x, y, z] t)) w2) :
    w2.cell? ⟨w.heap.size, 0, none⟩ = some x ∧ w2.cell? ⟨w.heap.size, 1, none⟩ = some y ∧ w2.cell? ⟨w.heap.size, 2, none⟩ = some z := by
  have hn : ∀ i v, (#[x, y, z] : Array Value)[i]? = some v → (w.alloc (.cells #[x, y, z] t)).cell? ⟨w.heap.size, i, none⟩ = some v := by
    intro i v h
    rw [World.cell?_alloc_at _ _ _ _ rfl]; exact h
  have hlt : w.heap.size < (w.alloc (.cells #[x, y, z] t)).heap.size := by simp
  exact ⟨(hb.cell (p := ⟨_, 0, none⟩) hlt).trans (hn 0 x rfl), (hb.cell (p := ⟨_, 1, none⟩) hlt).trans (hn 1 y rfl), (hb.cell (p := ⟨_, 2, none⟩) hlt).trans (hn 2 z rfl)⟩

set_option maxHeartbeats 1000000 in
set_option maxRecDepth 100000 in
theorem dayOf_same (y m d : Int) (k : Nat) (hk : k < 2400) (hM : mthI y m = k) (D : Nat) (hD : wrap64 (wrap64 ((fstN k : Int) + d) - 1) = D) (h : D < 73049) (hy : y = yrN D) (hm : m = moN D) (hd : d = daN D) (w : World) (L : LenW w) :
    Calls Tryz.prog 128 #[.agg #[.int .i64 y, .int .i64 m, .int .i64 d]] w fun e w' => e = .returned (.tuple #[.int .i64 D, .int .i64 0]) ∧ Below w.heap.size w w' := by
  have L1 := L.keep (below_new w (.cells #[.int .i64 y, .int .i64 m, .int .i64 d] 151))
  have HB := Lib.hid (bounds_any k hk _ L1)
  have HO := Lib.hid (dateOf_any D h _ L1)
  unfold mthI at hM
  rw [← hy, ← hm, ← hd] at HO
  generalize fstN k = F at *
  generalize lngN k = N at *
  clear h L L1 hy hm hd
  go_enter Tryz.func128, Tryz.ntmps128
  go_wp2_with fail
  refine HB.out.mono ?_
  rintro e w1 ⟨rfl, rfl⟩
  go_wp2_with fail
  refine HO.out.mono ?_
  rintro e w2 ⟨rfl, hb⟩
  have HW := Lib.hid (bel_on (below_new w _) hb)
  obtain ⟨c0, c1, c2⟩ := box3 hb
  have hlt : w.heap.size < w2.heap.size := cell_lt c0
  have d0 : ∀ o, (w2.alloc o).cell? ⟨w.heap.size, 0, none⟩ = some (.int .i64 y) := fun o => (World.cell?_alloc_past _ _ _ hlt).trans c0
  have d1 : ∀ o, (w2.alloc o).cell? ⟨w.heap.size, 1, none⟩ = some (.int .i64 m) := fun o => (World.cell?_alloc_past _ _ _ hlt).trans c1
  have d2 : ∀ o, (w2.alloc o).cell? ⟨w.heap.size, 2, none⟩ = some (.int .i64 d) := fun o => (World.cell?_alloc_past _ _ _ hlt).trans c2
  clear hb hlt
  go_wp2_with fail
  go_ret2
  exact ⟨rfl, bel_on HW.out (below_new w2 _)⟩

set_option maxHeartbeats 1000000 in
set_option maxRecDepth 100000 in
theorem dayOf_other (y m d : Int) (k : Nat) (hk : k < 2400) (hM : mthI y m = k) (D : Nat) (hD : wrap64 (wrap64 ((fstN k : Int) + d) - 1) = D) (h : D < 73049) (hn : ¬ (y = yrN D ∧ m = moN D ∧ d = daN D)) (w : World) (L : LenW w) :
    Calls Tryz.prog 128 #[.agg #[.int .i64 y, .int .i64 m, .int .i64 d]] w fun e w' => e = .returned (.tuple #[.int .i64 0, .int .i64 18]) ∧ Below w.heap.size w w' := by
  have L1 := L.keep (below_new w (.cells #[.int .i64 y, .int .i64 m, .int .i64 d] 151))
  have HB := Lib.hid (bounds_any k hk _ L1)
  have HO := Lib.hid (dateOf_any D h _ L1)
  unfold mthI at hM
  have HN : Hid (¬ ((yrN D : Int) = y ∧ (moN D : Int) = m ∧ (daN D : Int) = d)) := Lib.hid (fun c => hn ⟨c.1.symm, c.2.1.symm, c.2.2.symm⟩)
  obtain ⟨Y, hY⟩ : ∃ Y : Int, Y = yrN D := ⟨_, rfl⟩
  obtain ⟨Mo, hMo⟩ : ∃ Y : Int, Y = moN D := ⟨_, rfl⟩
  obtain ⟨Da, hDa⟩ : ∃ Y : Int, Y = daN D := ⟨_, rfl⟩
  rw [← hY, ← hMo, ← hDa] at HO HN
  generalize fstN k = F at *
  generalize lngN k = N at *
  clear h L L1 hY hMo hDa hn
  go_enter Tryz.func128, Tryz.ntmps128
  go_wp2_with fail
  refine HB.out.mono ?_
  rintro e w1 ⟨rfl, rfl⟩
  go_wp2_with fail
  refine HO.out.mono ?_
  rintro e w2 ⟨rfl, hb⟩
  have HW := Lib.hid (bel_on (below_new w _) hb)
  obtain ⟨c0, c1, c2⟩ := box3 hb
  have hlt : w.heap.size < w2.heap.size := cell_lt c0
  have d0 : ∀ o, (w2.alloc o).cell? ⟨w.heap.size, 0, none⟩ = some (.int .i64 y) := fun o => (World.cell?_alloc_past _ _ _ hlt).trans c0
  have d1 : ∀ o, (w2.alloc o).cell? ⟨w.heap.size, 1, none⟩ = some (.int .i64 m) := fun o => (World.cell?_alloc_past _ _ _ hlt).trans c1
  have d2 : ∀ o, (w2.alloc o).cell? ⟨w.heap.size, 2, none⟩ = some (.int .i64 d) := fun o => (World.cell?_alloc_past _ _ _ hlt).trans c2
  clear hb hlt
  go_wp2_with fail
  all_goals first | (exact absurd ⟨by assumption, by assumption, by assumption⟩ HN.out) | (go_ret2; exact ⟨rfl, bel_on HW.out (below_new w2 _)⟩)

theorem wrap_in {n : Int} (h0 : -9223372036854775808 ≤ n) (h1 : n ≤ 9223372036854775807) : wrap64 n = n := by unfold wrap64; omega
theorem dayOf_yes (y m d : Int) (h : IsDate y m d) (w : World) (L : LenW w) :
    Calls Tryz.prog 128 #[.agg #[.int .i64 y, .int .i64 m, .int .i64 d]] w fun e w' => e = .returned (.tuple #[.int .i64 (dayN y m d), .int .i64 0]) ∧ Below w.heap.size w w' := by
  obtain ⟨e0, e1, e2, e3⟩ := day_date h
  obtain ⟨h0, h1, h2, h3, h4, h5⟩ := h
  have hl := long_lng h0 h1 h2 h3
  have hle := fst_le (m := atN y m) (by omega)
  have hg := (fst_step _ hl.2).2
  rw [hl.1] at h5
  refine dayOf_same y m d (atN y m) hl.2 ?_ (dayN y m d) ?_ e0 e1.symm e2.symm e3.symm w L
  · unfold mthI
    rw [wrap_in (n := y - 2000) (by omega) (by omega), wrap_in (n := (y - 2000) * 12) (by omega) (by omega), wrap_in (n := (y - 2000) * 12 + m) (by omega) (by omega), wrap_in (by omega) (by omega)]
    unfold atN; omega
  · rw [wrap_in (n := (fstN (atN y m) : Int) + d) (by omega) (by omega), wrap_in (by omega) (by omega)]
    unfold dayN; omega
theorem dayOf_no (y m d : Int) (hy : I64d y) (hm : I64d m) (hd : I64d d) (h : ¬ IsDate y m d) (w : World) (L : LenW w) :
    Calls Tryz.prog 128 #[.agg #[.int .i64 y, .int .i64 m, .int .i64 d]] w fun e w' => e = .returned (.tuple #[.int .i64 0, .int .i64 18]) ∧ Below w.heap.size w w' := by
  by_cases c : mthI y m < 0 ∨ 2400 ≤ mthI y m
  · exact dayOf_far y m d hy hm hd c w
  · obtain ⟨k, hk⟩ : ∃ k : Nat, mthI y m = k := ⟨(mthI y m).toNat, by omega⟩
    by_cases c2 : wrap64 (wrap64 ((fstN k : Int) + d) - 1) < 0 ∨ 73048 < wrap64 (wrap64 ((fstN k : Int) + d) - 1)
    · exact dayOf_none y m d k (by omega) hk _ rfl c2 w L
    · obtain ⟨D, hD⟩ : ∃ D : Nat, wrap64 (wrap64 ((fstN k : Int) + d) - 1) = D := ⟨(wrap64 (wrap64 ((fstN k : Int) + d) - 1)).toNat, by omega⟩
      refine dayOf_other y m d k (by omega) hk D hD (by omega) (fun e => h ?_) w L
      rw [e.1, e.2.1, e.2.2]
      exact (date_is (by omega)).1

end Go.Proofs.YtdmdgoeacafpiaaGreatDoor

namespace Go.Proofs.YtdmdgoeacafpiaaGreatDoor
open Go.RowKit Go.Lib
set_option linter.unusedVariables false

theorem cell_far {w : World} {b b' o o' : Nat} {v : Value} (h : b ≠ b' ∨ o ≠ o') : (w.setCell ⟨b, o, none⟩ v).cell? ⟨b', o', none⟩ = w.cell? ⟨b', o', none⟩ := by
  apply World.cell?_setCell_other
  intro e
  injection e with e1 e2
  rcases h with h | h
  · exact h e1
  · exact h e2
theorem cell_here {w : World} {b o : Nat} {v u : Value} (h : w.cell? ⟨b, o, none⟩ = some u) : (w.setCell ⟨b, o, none⟩ v).cell? ⟨b, o, none⟩ = some v := by
  apply World.cell?_setCell_same
  exact h
/-- A text of ten bytes, and the variable that holds it. -/
structure TxI (B : Nat) (w0 w : World) (p b : Nat) (bs : Nat → Nat) : Prop where
  bel : Below B w0 w
  sl : w.cell? ⟨p, 0, none⟩ = some (.slice (some ⟨b, 0, none⟩) 10 10)
  tx : ∀ i, i < 10 → w.cell? ⟨b, i, none⟩ = some (.int .u8 (bs i))
  fr : ∀ i, i < 10 → w.frozen? ⟨b, i, none⟩ = false
  ne : b ≠ p
  lo : B ≤ b
theorem TxI.set {B : Nat} {w0 w : World} {p b : Nat} {bs : Nat → Nat} (h : TxI B w0 w p b bs) {i : Nat} (hi : i < 10) (v : Nat) :
    TxI B w0 (w.setCell ⟨b, i, none⟩ (.int .u8 v)) p b (fun k => if k = i then v else bs k) := by
  refine ⟨h.bel.setCell (p := ⟨b, i, none⟩) h.lo _, ?_, fun k hk => ?_, fun k hk => by simpa using h.fr k hk, h.ne, h.lo⟩
  · rw [cell_far (Or.inl h.ne)]; exact h.sl
  · by_cases c : k = i
    · subst c
      simp only [if_true]
      exact cell_here (h.tx k hk)
    · simp only [if_neg c]
      rw [cell_far (Or.inr (fun e => c e.symm))]; exact h.tx k hk

/-- A number's digits, added ahead of a place. -/
def addD (n e : Nat) (bs : Nat → Nat) (k : Nat) : Nat := bs k + (if k < e then n / 10 ^ (e - 1 - k) % 10 else 0)
theorem addD_step {v s : Nat} {cs : Nat → Nat} (k : Nat) : addD (v / 10) s (fun j => if j = s then cs s + v % 10 else cs j) k = addD v (s + 1) cs k := by
  unfold addD
  dsimp only
  by_cases h1 : k < s
  · rw [if_neg (show ¬ k = s by omega), if_pos h1, if_pos (show k < s + 1 by omega), Nat.div_div_eq_div_mul, show s + 1 - 1 - k = (s - 1 - k) + 1 by omega, Nat.pow_succ, Nat.mul_comm 10]
  · by_cases h2 : k = s
    · subst h2
      rw [if_pos rfl, if_neg h1, if_pos (show k < k + 1 by omega), show k + 1 - 1 - k = 0 by omega]; simp
    · rw [if_neg h2, if_neg h1, if_neg (show ¬ k < s + 1 by omega)]
theorem addD_zero (e : Nat) (cs : Nat → Nat) (k : Nat) : addD 0 e cs k = cs k := by unfold addD; split <;> simp

set_option maxHeartbeats 1000000 in
set_option maxRecDepth 100000 in
theorem write1_any (n e : Nat) (he : e ≤ 10) (hn : n < 10 ^ e) (bs : Nat → Nat) (hs : ∀ k, k < e → bs k ≤ 100) (B : Nat) (w0 w : World) (p b : Nat) (h : TxI B w0 w p b bs) :
    Calls Tryz.prog 109 #[.int .i64 n, .int .i64 e, .pointer (some ⟨p, 0, none⟩)] w fun r w' => r = .returned (.tuple #[]) ∧ ∃ cs, TxI B w0 w' p b cs ∧ ∀ k, cs k = addD n e bs k := by
  have HI := Lib.hid h
  have HN := Lib.hid hn
  have HS := Lib.hid hs
  have hn2 : n < 10000000000 := Nat.lt_of_lt_of_le hn (Nat.pow_le_pow_right (by decide) he)
  clear h hn hs
  go_enter Tryz.func109, Tryz.ntmps109
  go_wp2_with fail
  go_loopw [0, 5] (fun vn vi wx => ∃ (v s : Nat) (cs : Nat → Nat), s ≤ e ∧ vn = .int .i64 v ∧ vi = .int .i64 ((s : Int) - 1) ∧ v ≤ 10000000000 ∧ v < 10 ^ s ∧ TxI B w0 wx p b cs ∧ (∀ k, k < s → cs k ≤ 100) ∧ ∀ k, addD v s cs k = addD n e bs k) (fun vn _ _ => (RowKit.intOf vn).toNat)
  case atStart => exact ⟨n, e, bs, Nat.le_refl _, rfl, by go_num, by omega, HN.out, HI.out, HS.out, fun _ => rfl⟩
  case round =>
    clear HI HN HS
    obtain ⟨v, s, cs, hs, rfl, hvi, hv9, hv, hT, h100, hA⟩ := hrel
    have HT := Lib.hid hT
    have HA := Lib.hid hA
    have H100 := Lib.hid h100
    by_cases hz : v = 0
    · subst hz
      subst hvi
      clear hT hA h100 hv
      go_wp2_with fail
      exact bodyPost_end (results_none rfl _ _ _) rfl ⟨rfl, cs, HT.out, fun k => by rw [← HA.out, addD_zero]⟩
    · cases s with
      | zero => simp at hv; omega
      | succ s =>
        obtain ⟨q, hq⟩ : ∃ q, q = v / 10 := ⟨_, rfl⟩
        obtain ⟨r, hr⟩ : ∃ r, r = v % 10 := ⟨_, rfl⟩
        have hq1 : (v : Int) / 10 = (q : Int) := by omega
        have hr1 : (v : Int) % 10 = (r : Int) := by omega
        have hr2 : r < 10 := by omega
        have hq2 : q < v := by omega
        have HQ : Hid (q < 10 ^ s) := Lib.hid (by rw [Nat.pow_succ] at hv; omega)
        have hs10 : s < 10 := by omega
        have hsl := hT.sl
        have htx := hT.tx s hs10
        have hfr := hT.fr s hs10
        have hc100 := h100 s (by omega)
        have HT2 := Lib.hid (hT.set hs10 (cs s + r))
        have HA2 : Hid (∀ k, addD q s (fun j => if j = s then cs s + r else cs j) k = addD n e bs k) := Lib.hid (fun k => by rw [hq, hr, addD_step]; exact hA k)
        have H100b : Hid (∀ k, k < s → (fun j => if j = s then cs s + r else cs j) k ≤ 100) := Lib.hid (fun k hk => by simp only [if_neg (show ¬ k = s by omega)]; exact h100 k (by omega))
        rw [show (((s + 1 : Nat) : Int) - 1) = (s : Int) by omega] at hvi
        subst hvi
        have i0 : (0 : Int) ≤ (s : Int) := by omega
        have i1 : (s : Int) < 10 := by omega
        have hpos : (0 : Int) < (v : Int) := by omega
        clear hT hA h100 hv hq hr HT HA H100 hz
        generalize cs s = c at *
        go_wp2_with fail
        go_roundw
        case rel => exact ⟨q, s, _, by omega, by go_num, by go_num, by omega, HQ.out, HT2.out, H100b.out, HA2.out⟩
        case measure => simp [RowKit.intOf]; omega

def baseB (k : Nat) : Nat := if k = 4 ∨ k = 7 then 45 else 48
/-- A date's bytes. -/
def dayB (y m d : Nat) (k : Nat) : Nat := addD d 10 (addD m 7 (addD y 4 baseB)) k
/-- A date's text. -/
def dayL (y m d : Nat) : List UInt8 := (List.range 10).map fun k => UInt8.ofNat (dayB y m d k)
theorem dayL_len (y m d : Nat) : (dayL y m d).length = 10 := by unfold dayL; simp
theorem digit_le (n e k : Nat) (bs : Nat → Nat) : addD n e bs k ≤ bs k + 9 := by
  unfold addD; split <;> omega
theorem base_le (k : Nat) : baseB k ≤ 48 := by unfold baseB; split <;> omega
theorem dayB_le (y m d k : Nat) : dayB y m d k ≤ 75 := by
  unfold dayB
  have h1 := digit_le d 10 k (addD m 7 (addD y 4 baseB))
  have h2 := digit_le m 7 k (addD y 4 baseB)
  have h3 := digit_le y 4 k baseB
  have h4 := base_le k
  omega
theorem dayL_get (y m d k : Nat) (hk : k < 10) : (dayL y m d)[k]? = some (UInt8.ofNat (dayB y m d k)) := by
  unfold dayL
  rw [List.getElem?_map, List.getElem?_range hk]; rfl
theorem dayL_byte (y m d k : Nat) (hk : k < 10) (h : k < (dayL y m d).length) : (((dayL y m d)[k]).toNat : Int) = (dayB y m d k : Nat) := by
  have h1 := dayL_get y m d k hk
  rw [List.getElem?_eq_getElem h] at h1
  rw [Option.some.inj h1]
  have := dayB_le y m d k
  have e : (UInt8.ofNat (dayB y m d k)).toNat = dayB y m d k := by
    rw [UInt8.toNat_ofNat']; exact Nat.mod_eq_of_lt (by omega)
  rw [e]

theorem txi_new (w : World) (e e2 : TypeId) :
    TxI w.heap.size w ((w.alloc (.cells #[.int .u8 48, .int .u8 48, .int .u8 48, .int .u8 48, .int .u8 45, .int .u8 48, .int .u8 48, .int .u8 45, .int .u8 48, .int .u8 48] e (10, 11))).alloc (.cells #[.slice (some ⟨w.heap.size, 0, none⟩) 10 10] e2)) (w.heap.size + 1) w.heap.size baseB := by
  have z1 : (w.alloc (.cells #[.int .u8 48, .int .u8 48, .int .u8 48, .int .u8 48, .int .u8 45, .int .u8 48, .int .u8 48, .int .u8 45, .int .u8 48, .int .u8 48] e (10, 11))).heap.size = w.heap.size + 1 := by simp
  refine ⟨Below.alloc (Below.alloc (Below.refl _ _) (Nat.le_refl _) _) (by rw [z1]; omega) _, ?_, fun i hi => ?_, fun i hi => ?_, by omega, Nat.le_refl _⟩
  · rw [← z1, World.cell?_alloc_at _ _ _ _ rfl]; rfl
  · rw [World.cell?_alloc_past _ _ _ (by rw [z1]; exact Nat.lt_succ_self _), World.cell?_alloc_mark]
    match i, hi with
    | 0, _ => rfl
    | 1, _ => rfl
    | 2, _ => rfl
    | 3, _ => rfl
    | 4, _ => rfl
    | 5, _ => rfl
    | 6, _ => rfl
    | 7, _ => rfl
    | 8, _ => rfl
    | 9, _ => rfl
  · rw [World.frozen?_alloc_past _ _ _ (by rw [z1]; exact Nat.lt_succ_self _), World.frozen?_alloc_mark]
    simp; omega

set_option maxHeartbeats 2000000 in
set_option maxRecDepth 100000 in
theorem print_any (d : Nat) (hd : d < 73049) (w : World) (L : LenW w) :
    Calls Tryz.prog 86 #[.int .i64 d] w fun e w' => e = .returned (.tuple #[.string ⟨(dayL (yrN d) (moN d) (daN d)).toArray⟩, .int .i64 0]) ∧ Below w.heap.size w w' := by
  have HM := Lib.hid (dateOf_any d hd w L)
  have hdt := (date_is hd).1
  have b1 : yrN d < 10 ^ 4 := by have := hdt.2.1; omega
  have b2 : moN d < 10 ^ 7 := by have := hdt.2.2.2.1; omega
  have b3 : daN d < 10 ^ 10 := by unfold daN; omega
  generalize yrN d = Y at *
  generalize moN d = Mo at *
  generalize daN d = Da at *
  have HW1 : Hid (∀ B w0 w p b, TxI B w0 w p b baseB → Calls Tryz.prog 109 #[.int .i64 Y, .int .i64 4, .pointer (some ⟨p, 0, none⟩)] w fun r w' => r = .returned (.tuple #[]) ∧ TxI B w0 w' p b (addD Y 4 baseB)) := Lib.hid (fun B w0 w p b h =>
    (write1_any Y 4 (by omega) b1 baseB (fun k _ => by have := base_le k; omega) B w0 w p b h).mono fun r w' ⟨e1, cs, h1, h2⟩ => ⟨e1, by rw [← funext h2]; exact h1⟩)
  have HW2 : Hid (∀ B w0 w p b, TxI B w0 w p b (addD Y 4 baseB) → Calls Tryz.prog 109 #[.int .i64 Mo, .int .i64 7, .pointer (some ⟨p, 0, none⟩)] w fun r w' => r = .returned (.tuple #[]) ∧ TxI B w0 w' p b (addD Mo 7 (addD Y 4 baseB))) := Lib.hid (fun B w0 w p b h =>
    (write1_any Mo 7 (by omega) b2 (addD Y 4 baseB) (fun k _ => by have := base_le k; have := digit_le Y 4 k baseB; omega) B w0 w p b h).mono fun r w' ⟨e1, cs, h1, h2⟩ => ⟨e1, by rw [← funext h2]; exact h1⟩)
  have HW3 : Hid (∀ B w0 w p b, TxI B w0 w p b (addD Mo 7 (addD Y 4 baseB)) → Calls Tryz.prog 109 #[.int .i64 Da, .int .i64 10, .pointer (some ⟨p, 0, none⟩)] w fun r w' => r = .returned (.tuple #[]) ∧ TxI B w0 w' p b (dayB Y Mo Da)) := Lib.hid (fun B w0 w p b h =>
    (write1_any Da 10 (by omega) b3 (addD Mo 7 (addD Y 4 baseB)) (fun k _ => by have := base_le k; have := digit_le Y 4 k baseB; have := digit_le Mo 7 k (addD Y 4 baseB); omega) B w0 w p b h).mono fun r w' ⟨e1, cs, h1, h2⟩ => ⟨e1, by rw [show dayB Y Mo Da = cs from (funext h2).symm]; exact h1⟩)
  obtain ⟨X, hX⟩ : ∃ X, X = dayL Y Mo Da := ⟨_, rfl⟩
  rw [← hX]
  have HX := Lib.hid hX
  clear hdt b1 b2 b3 L hX
  go_enter Tryz.func86, Tryz.ntmps86
  go_wp2_with fail
  refine HM.out.mono ?_
  rintro e w1 ⟨rfl, hb⟩
  have HB := Lib.hid (bel_on hb (below_new w1 (.cells #[.int .i64 Y, .int .i64 Mo, .int .i64 Da] 151)))
  have hT := txi_new (w1.alloc (.cells #[.int .i64 Y, .int .i64 Mo, .int .i64 Da] 151)) 5 99
  have kc := Lib.run_convert_bytes_const (P := Tryz.prog) (w1.alloc (.cells #[.int .i64 Y, .int .i64 Mo, .int .i64 Da] 151)) 99 5 #[.int .u8 48, .int .u8 48, .int .u8 48, .int .u8 48, .int .u8 45, .int .u8 48, .int .u8 48, .int .u8 45, .int .u8 48, .int .u8 48] 10 10 Tryz.underlying99 Tryz.underlying5
  rw [show (w1.alloc (.cells #[.int .i64 Y, .int .i64 Mo, .int .i64 Da] 151)).heap.size = w1.heap.size + 1 by simp] at hT kc
  have hD : ∀ w', Below (w1.heap.size + 1) (w1.alloc (.cells #[.int .i64 Y, .int .i64 Mo, .int .i64 Da] 151)) w' → w'.cell? ⟨w1.heap.size, 0, none⟩ = some (.int .i64 Y) ∧ w'.cell? ⟨w1.heap.size, 1, none⟩ = some (.int .i64 Mo) ∧ w'.cell? ⟨w1.heap.size, 2, none⟩ = some (.int .i64 Da) := fun w' h => box3 (by simpa using h)
  have HD := Lib.hid hD
  have HT := Lib.hid hT
  clear hb hT hD
  go_wp2_with fail
  refine (HW1.out _ _ _ _ _ HT.out).mono ?_
  rintro e w2 ⟨rfl, hT2⟩
  have HT2 := Lib.hid hT2
  obtain ⟨c0, c1, c2⟩ := HD.out _ hT2.bel
  clear kc hT2 HT HW1
  go_wp2_with fail
  refine (HW2.out _ _ _ _ _ HT2.out).mono ?_
  rintro e w3 ⟨rfl, hT3⟩
  have HT3 := Lib.hid hT3
  clear c0 c1 c2
  obtain ⟨c0, c1, c2⟩ := HD.out _ hT3.bel
  clear hT3 HT2 HW2
  go_wp2_with fail
  refine (HW3.out _ _ _ _ _ HT3.out).mono ?_
  rintro e w4 ⟨rfl, hT4⟩
  have HT4 := Lib.hid hT4
  have hsl := hT4.sl
  clear c0 c1 c2
  have kb := run_convert_bytes_back (P := Tryz.prog) w4 99 9 5 ⟨w1.heap.size + 1, 0, none⟩ 10 (dayL Y Mo Da) Tryz.underlying99 Tryz.underlying5 Tryz.underlying9 (fun j hj => by
    have hj2 : j < 10 := by rw [dayL_len] at hj; exact hj
    rw [dayL_byte Y Mo Da j hj2 hj]
    have h := HT4.out.tx j hj2
    have e : (Addr.add ⟨w1.heap.size + 1, 0, none⟩ j) = ⟨w1.heap.size + 1, j, none⟩ := by
      cases j with
      | zero => rfl
      | succ j => simp [Addr.add]
    rw [e]; exact h)
  rw [dayL_len, ← HX.out] at kb
  clear hT4 HT3 HW3
  go_wp2_with fail
  go_ret2
  exact ⟨rfl, HB.out.trans (HT4.out.bel.mono (by have := HB.out.size; simpa using this))⟩
theorem print_no (d : Int) (h : d < 0 ∨ 73048 < d) (w : World) :
    Calls Tryz.prog 86 #[.int .i64 d] w fun e w' => e = .returned (.tuple #[.string ⟨#[]⟩, .int .i64 18]) ∧ Below w.heap.size w w' := by
  have HM := Lib.hid (dateOf_no d h w)
  clear h
  go_enter Tryz.func86, Tryz.ntmps86
  go_wp2_with fail
  refine HM.out.mono ?_
  rintro e w1 ⟨rfl, hb⟩
  have HB := Lib.hid hb
  clear hb
  go_wp2_with fail
  go_ret2
  exact ⟨rfl, bel_on HB.out (below_new w1 _)⟩

end Go.Proofs.YtdmdgoeacafpiaaGreatDoor

namespace Go.Proofs.YtdmdgoeacafpiaaGreatDoor
open Go.RowKit Go.Lib
set_option linter.unusedVariables false

theorem mon_30 : mon 30 = 0 := mon_eq (by decide) (by decide +kernel) (by decide +kernel)
theorem mon_end : mon 73048 = 2399 := mon_eq (by decide) (by decide +kernel) (by decide +kernel)
theorem on_30 : onN 30 1 = 59 := by unfold onN; rw [mon_30]; decide +kernel
theorem text_end : dayL (yrN 73048) (moN 73048) (daN 73048) = [50, 49, 57, 57, 45, 49, 50, 45, 51, 49] := by
  unfold yrN moN daN; rw [mon_end]; decide +kernel
theorem day_60 : dayN 2000 3 1 = 60 := by decide +kernel
theorem is_60 : IsDate 2000 3 1 := by decide +kernel

end Go.Proofs.YtdmdgoeacafpiaaGreatDoor

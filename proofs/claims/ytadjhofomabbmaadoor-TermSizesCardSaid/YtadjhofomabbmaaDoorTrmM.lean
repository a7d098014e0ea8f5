/-
  chattellaw05: TermSizes's walk.
-/
import Derived.Test.YtadjhofomabbmaaDoorTrmL
namespace Go.Proofs.YtadjhofomabbmaaDoor
open Go.RowKit Go.Lib
set_option linter.unusedVariables false

set_option maxHeartbeats 2000000 in
set_option maxRecDepth 100000 in
theorem sizes_far (a : Option Addr) (len cap : Nat) (h : 100 < len) (hl : len ≤ 9223372036854775807) (p : Int) (w : World) (C : KndW w) :
    Calls Tryd.prog 5 #[.slice a len cap, .int .i64 p] w fun e w' => e = .returned (.bool true) ∧ Below w.heap.size w w' := by
  have HAw := Lib.hid (awake5_any w C)
  have h1 : (100 : Int) < (len : Int) := by omega
  clear C
  go_enter Tryd.func5, Tryd.ntmps5
  go_wp2_with fail
  refine HAw.out.mono ?_
  rintro e w1 ⟨rfl, hb⟩
  go_wp2_with fail
  go_ret
  exact ⟨rfl, hb⟩

set_option maxHeartbeats 2000000 in
set_option maxRecDepth 100000 in
theorem sizes_out (a : Option Addr) (len cap : Nat) (h : len ≤ 100) (p : Int) (hp : p < 0 ∨ (len : Int) ≤ p) (w : World) (C : KndW w) :
    Calls Tryd.prog 5 #[.slice a len cap, .int .i64 p] w fun e w' => e = .returned (.bool true) ∧ Below w.heap.size w w' := by
  have HAw := Lib.hid (fun w C => awake5_any w C)
  have HS := Lib.hid (fun w => size_out a len cap (by omega) p hp w)
  have HBl := Lib.hid (fun w => below_bad a len cap p w 10 (by decide) ((HS.out w).mono fun r w' ⟨h1, h2⟩ => ⟨h1, by subst h2; exact Below.refl _ _⟩))
  have HC := Lib.hid C
  have h1 : ¬ (100 : Int) < (len : Int) := by omega
  clear C
  rcases hp with hp | hp
  · go_enter Tryd.func5, Tryd.ntmps5
    go_wp2_with fail
    refine (HS.out _).mono ?_
    rintro e w1 ⟨rfl, rfl⟩
    go_wp2_with fail
    refine (HBl.out _).mono ?_
    rintro e w2 ⟨rfl, hb2⟩
    have HB2 := Lib.hid hb2
    clear hb2
    go_wp2_with fail
    refine (HAw.out _ (HC.out.keep HB2.out)).mono ?_
    rintro e w3 ⟨rfl, hb3⟩
    go_wp2_with fail
    go_ret
    exact ⟨rfl, onB HB2.out hb3⟩
  · have hp0 : 0 ≤ p := by omega
    go_enter Tryd.func5, Tryd.ntmps5
    go_wp2_with fail
    refine (HS.out _).mono ?_
    rintro e w1 ⟨rfl, rfl⟩
    go_wp2_with fail
    refine (HBl.out _).mono ?_
    rintro e w2 ⟨rfl, hb2⟩
    have HB2 := Lib.hid hb2
    clear hb2
    go_wp2_with fail
    refine (HAw.out _ (HC.out.keep HB2.out)).mono ?_
    rintro e w3 ⟨rfl, hb3⟩
    go_wp2_with fail
    go_ret
    exact ⟨rfl, onB HB2.out hb3⟩

set_option maxHeartbeats 4000000 in
set_option maxRecDepth 100000 in
theorem sizes_in (t : List Nd) (h : t.length ≤ 100) (b o cap : Nat) (hcap : t.length ≤ cap) (hcm : cap ≤ 9223372036854775807) (p : Nat) (hp : p < t.length) (w : World) (hN : NdA w b o t) (C : KndW w) :
    Calls Tryd.prog 5 #[.slice (some ⟨b, o, none⟩) t.length cap, .int .i64 p] w fun e w' => e = .returned (.bool true) ∧ Below w.heap.size w w' := by
  have HAw := Lib.hid (fun w C => awake5_any w C)
  have HS := Lib.hid (fun w hN C => size_in t (by omega) b o cap hcap hcm p hp w hN C)
  have HRS := Lib.hid (fun w hN => rszT_any t (by omega) b o cap hcap p hp w hN)
  have HC := Lib.hid C
  have HN := Lib.hid hN
  have h1 : ¬ (100 : Int) < (t.length : Int) := by omega
  have p0 : (0 : Int) ≤ (p : Int) := by omega
  have p1 : (p : Int) < (t.length : Int) := by omega
  by_cases hT : TmA t p
  · have HBl := Lib.hid (fun w hN C => below_ok t (by omega) b o cap p hcap hcm hT w hN C)
    have HRB := Lib.hid (fun w hN => rblT_any t (by omega) b o cap p hcap hT w hN)
    have hl := plL_len t p (cnO (opA t p))
    have hc := cn_le (opA t p)
    have hsz := hT.bd.1
    have hzb : (((szA t p : Nat) : Int) == 0) = false := by simp; omega
    rw [szE_ok hT] at HS HRS
    clear C hN hT
    generalize plL t p (cnO (opA t p)) = L at *
    generalize szA t p = sz at *
    go_enter Tryd.func5, Tryd.ntmps5
    go_wp2_with fail
    refine (HS.out _ HN.out HC.out).mono ?_
    rintro e w1 ⟨rfl, hb1⟩
    have HB1 := Lib.hid hb1
    clear hb1
    go_wp2_with fail
    refine (HBl.out _ (HN.out.keep HB1.out) (HC.out.keep HB1.out)).mono ?_
    rintro e w2 ⟨v, rfl, hown, hb2⟩
    have HB2 := Lib.hid (onB HB1.out hb2)
    have HO2 := Lib.hid hown
    clear hb2 hown
    go_wp2_with fail
    refine (HRS.out _ (HN.out.keep HB2.out)).mono ?_
    rintro e w3 ⟨rfl, hb3⟩
    have HB3 := Lib.hid (onB HB2.out hb3)
    have HO3 := Lib.hid (HO2.out.grown hb3)
    clear hb3
    go_wp2_with fail
    refine (HRB.out _ (HN.out.keep HB3.out)).mono ?_
    rintro e w4 ⟨v', rfl, hown, hb4⟩
    have HB4 := Lib.hid (onB HB3.out hb4)
    have HI := Lib.hid (ints_own L (by omega) v v' _ _ w4 (HO3.out.grown hb4) hown)
    clear hb4 hown
    go_wp2_with fail
    refine HI.out.mono ?_
    rintro e w5 ⟨rfl, hb5⟩
    have HB5 := Lib.hid (onB HB4.out hb5)
    clear hb5
    go_wp2_with fail
    refine (HAw.out _ (HC.out.keep HB5.out)).mono ?_
    rintro e w6 ⟨rfl, hb6⟩
    go_wp2_with fail
    go_ret
    exact ⟨rfl, onB HB5.out hb6⟩
  · rw [szE_no hT] at HS HRS
    have HBl := Lib.hid (fun w hN C => below_bad (some ⟨b, o, none⟩) t.length cap p w 13 (by decide) (HS.out w hN C))
    clear C hN hT
    go_enter Tryd.func5, Tryd.ntmps5
    go_wp2_with fail
    refine (HS.out _ HN.out HC.out).mono ?_
    rintro e w1 ⟨rfl, hb1⟩
    have HB1 := Lib.hid hb1
    clear hb1
    go_wp2_with fail
    refine (HBl.out _ (HN.out.keep HB1.out) (HC.out.keep HB1.out)).mono ?_
    rintro e w2 ⟨rfl, hb2⟩
    have HB2 := Lib.hid (onB HB1.out hb2)
    clear hb2
    go_wp2_with fail
    refine (HRS.out _ (HN.out.keep HB2.out)).mono ?_
    rintro e w3 ⟨rfl, hb3⟩
    have HB3 := Lib.hid (onB HB2.out hb3)
    clear hb3
    go_wp2_with fail
    refine (HAw.out _ (HC.out.keep HB3.out)).mono ?_
    rintro e w6 ⟨rfl, hb6⟩
    go_wp2_with fail
    go_ret
    exact ⟨rfl, onB HB3.out hb6⟩

theorem sizes_walk (t : List Nd) (a : Option Addr) (cap : Nat) (hl : t.length ≤ 9223372036854775807) (w : World) (hs : SlT w (.slice a t.length cap) t) (p : Int) (C : KndW w) :
    Calls Tryd.prog 5 #[.slice a t.length cap, .int .i64 p] w fun e w' => e = .returned (.bool true) ∧ Below w.heap.size w w' := by
  by_cases h : 100 < t.length
  · exact sizes_far a _ cap h hl p w C
  · by_cases hp : p < 0 ∨ (t.length : Int) ≤ p
    · exact sizes_out a _ cap (by omega) p hp w C
    · rcases hs with ⟨e, _⟩ | ⟨h0, b, o, cap', e, h2, h3, h4⟩
      · subst e; exact absurd (Or.inr (by simp; omega)) hp
      · injection e with e1 e2 e3
        subst e1 e3
        obtain ⟨k, rfl⟩ : ∃ k : Nat, p = (k : Int) := ⟨p.toNat, by omega⟩
        exact sizes_in t (by omega) b o cap h2 h3 k (by omega) w h4 C

end Go.Proofs.YtadjhofomabbmaaDoor

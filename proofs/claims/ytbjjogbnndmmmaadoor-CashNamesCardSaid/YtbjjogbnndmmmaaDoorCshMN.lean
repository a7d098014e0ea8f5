/-
  chattelref03: Name, Digits: what they answer.
-/
import Derived.Test.YtbjjogbnndmmmaaDoorCsh
namespace Go.Proofs.YtbjjogbnndmmmaaDoor
open Go.RowKit Go.Lib
set_option linter.unusedVariables false

set_option maxHeartbeats 1000000 in
set_option maxRecDepth 100000 in
theorem rname_no (c : Int) (h : c < 0 ∨ 7 < c) (w : World) : Calls Tryd.prog 18 #[.int .i64 c] w fun e w' => e = .returned (.string ⟨#[]⟩) ∧ Below w.heap.size w w' := by
  rcases h with h | h
  · go_enter Tryd.func18, Tryd.ntmps18
    go_wp2_with fail
    go_ret
    exact ⟨rfl, below_one w _⟩
  · have h0 : ¬ c < 0 := by omega
    go_enter Tryd.func18, Tryd.ntmps18
    go_wp2_with fail
    go_ret
    exact ⟨rfl, below_one w _⟩

set_option maxRecDepth 100000 in
theorem rname_0 (w : World) : Calls Tryd.prog 18 #[.int .i64 0] w fun e w' => e = .returned (.string ⟨(curN 0).toArray⟩) ∧ Below w.heap.size w w' := by
  go_enter Tryd.func18, Tryd.ntmps18
  go_wp2_with fail
  go_ret
  exact ⟨rfl, below_one w _⟩
set_option maxRecDepth 100000 in
theorem rdigs_0 (w : World) : Calls Tryd.prog 20 #[.int .i64 0] w fun e w' => e = .returned (.int .i64 (curD 0)) ∧ Below w.heap.size w w' := by
  go_enter Tryd.func20, Tryd.ntmps20
  go_wp2_with fail
  go_ret
  exact ⟨rfl, below_one w _⟩
set_option maxRecDepth 100000 in
theorem rname_1 (w : World) : Calls Tryd.prog 18 #[.int .i64 1] w fun e w' => e = .returned (.string ⟨(curN 1).toArray⟩) ∧ Below w.heap.size w w' := by
  go_enter Tryd.func18, Tryd.ntmps18
  go_wp2_with fail
  go_ret
  exact ⟨rfl, below_one w _⟩
set_option maxRecDepth 100000 in
theorem rdigs_1 (w : World) : Calls Tryd.prog 20 #[.int .i64 1] w fun e w' => e = .returned (.int .i64 (curD 1)) ∧ Below w.heap.size w w' := by
  go_enter Tryd.func20, Tryd.ntmps20
  go_wp2_with fail
  go_ret
  exact ⟨rfl, below_one w _⟩
set_option maxRecDepth 100000 in
theorem rname_2 (w : World) : Calls Tryd.prog 18 #[.int .i64 2] w fun e w' => e = .returned (.string ⟨(curN 2).toArray⟩) ∧ Below w.heap.size w w' := by
  go_enter Tryd.func18, Tryd.ntmps18
  go_wp2_with fail
  go_ret
  exact ⟨rfl, below_one w _⟩
set_option maxRecDepth 100000 in
theorem rdigs_2 (w : World) : Calls Tryd.prog 20 #[.int .i64 2] w fun e w' => e = .returned (.int .i64 (curD 2)) ∧ Below w.heap.size w w' := by
  go_enter Tryd.func20, Tryd.ntmps20
  go_wp2_with fail
  go_ret
  exact ⟨rfl, below_one w _⟩
set_option maxRecDepth 100000 in
theorem rname_3 (w : World) : Calls Tryd.prog 18 #[.int .i64 3] w fun e w' => e = .returned (.string ⟨(curN 3).toArray⟩) ∧ Below w.heap.size w w' := by
  go_enter Tryd.func18, Tryd.ntmps18
  go_wp2_with fail
  go_ret
  exact ⟨rfl, below_one w _⟩
set_option maxRecDepth 100000 in
theorem rdigs_3 (w : World) : Calls Tryd.prog 20 #[.int .i64 3] w fun e w' => e = .returned (.int .i64 (curD 3)) ∧ Below w.heap.size w w' := by
  go_enter Tryd.func20, Tryd.ntmps20
  go_wp2_with fail
  go_ret
  exact ⟨rfl, below_one w _⟩
set_option maxRecDepth 100000 in
theorem rname_4 (w : World) : Calls Tryd.prog 18 #[.int .i64 4] w fun e w' => e = .returned (.string ⟨(curN 4).toArray⟩) ∧ Below w.heap.size w w' := by
  go_enter Tryd.func18, Tryd.ntmps18
  go_wp2_with fail
  go_ret
  exact ⟨rfl, below_one w _⟩
set_option maxRecDepth 100000 in
theorem rdigs_4 (w : World) : Calls Tryd.prog 20 #[.int .i64 4] w fun e w' => e = .returned (.int .i64 (curD 4)) ∧ Below w.heap.size w w' := by
  go_enter Tryd.func20, Tryd.ntmps20
  go_wp2_with fail
  go_ret
  exact ⟨rfl, below_one w _⟩
set_option maxRecDepth 100000 in
theorem rname_5 (w : World) : Calls Tryd.prog 18 #[.int .i64 5] w fun e w' => e = .returned (.string ⟨(curN 5).toArray⟩) ∧ Below w.heap.size w w' := by
  go_enter Tryd.func18, Tryd.ntmps18
  go_wp2_with fail
  go_ret
  exact ⟨rfl, below_one w _⟩
set_option maxRecDepth 100000 in
theorem rdigs_5 (w : World) : Calls Tryd.prog 20 #[.int .i64 5] w fun e w' => e = .returned (.int .i64 (curD 5)) ∧ Below w.heap.size w w' := by
  go_enter Tryd.func20, Tryd.ntmps20
  go_wp2_with fail
  go_ret
  exact ⟨rfl, below_one w _⟩
set_option maxRecDepth 100000 in
theorem rname_6 (w : World) : Calls Tryd.prog 18 #[.int .i64 6] w fun e w' => e = .returned (.string ⟨(curN 6).toArray⟩) ∧ Below w.heap.size w w' := by
  go_enter Tryd.func18, Tryd.ntmps18
  go_wp2_with fail
  go_ret
  exact ⟨rfl, below_one w _⟩
set_option maxRecDepth 100000 in
theorem rdigs_6 (w : World) : Calls Tryd.prog 20 #[.int .i64 6] w fun e w' => e = .returned (.int .i64 (curD 6)) ∧ Below w.heap.size w w' := by
  go_enter Tryd.func20, Tryd.ntmps20
  go_wp2_with fail
  go_ret
  exact ⟨rfl, below_one w _⟩
set_option maxRecDepth 100000 in
theorem rname_7 (w : World) : Calls Tryd.prog 18 #[.int .i64 7] w fun e w' => e = .returned (.string ⟨(curN 7).toArray⟩) ∧ Below w.heap.size w w' := by
  go_enter Tryd.func18, Tryd.ntmps18
  go_wp2_with fail
  go_ret
  exact ⟨rfl, below_one w _⟩
set_option maxRecDepth 100000 in
theorem rdigs_7 (w : World) : Calls Tryd.prog 20 #[.int .i64 7] w fun e w' => e = .returned (.int .i64 (curD 7)) ∧ Below w.heap.size w w' := by
  go_enter Tryd.func20, Tryd.ntmps20
  go_wp2_with fail
  go_ret
  exact ⟨rfl, below_one w _⟩
theorem rname_any (k : Nat) (hk : k < 8) (w : World) : Calls Tryd.prog 18 #[.int .i64 k] w fun e w' => e = .returned (.string ⟨(curN k).toArray⟩) ∧ Below w.heap.size w w' := by
  match k, hk with
  | 0, _ => exact rname_0 w
  | 1, _ => exact rname_1 w
  | 2, _ => exact rname_2 w
  | 3, _ => exact rname_3 w
  | 4, _ => exact rname_4 w
  | 5, _ => exact rname_5 w
  | 6, _ => exact rname_6 w
  | 7, _ => exact rname_7 w
theorem rdigs_any (k : Nat) (hk : k < 8) (w : World) : Calls Tryd.prog 20 #[.int .i64 k] w fun e w' => e = .returned (.int .i64 (curD k)) ∧ Below w.heap.size w w' := by
  match k, hk with
  | 0, _ => exact rdigs_0 w
  | 1, _ => exact rdigs_1 w
  | 2, _ => exact rdigs_2 w
  | 3, _ => exact rdigs_3 w
  | 4, _ => exact rdigs_4 w
  | 5, _ => exact rdigs_5 w
  | 6, _ => exact rdigs_6 w
  | 7, _ => exact rdigs_7 w

/-- Of two currencies' names none is the other's. -/
theorem names_apart : ∀ i j : Fin 8, i ≠ j → curN i.val ≠ curN j.val := by decide
theorem findK_only {l : List UInt8} {i j : Nat} (hi : i < 8) (h : findK l i = some j) : (curN i == l) = false := by
  have hj := findK_lt h
  have hs := findK_sound h
  rw [← hs]
  exact beq_false_of_ne (names_apart ⟨i, hi⟩ ⟨j, by omega⟩ (fun e => by have := congrArg Fin.val e; simp at this; omega))
/-- The currency of a name so far; -1: there is none. -/
def wantK (l : List UInt8) (i : Nat) : Int := match findK l i with
  | none => -1
  | some j => j
theorem wantK_hit {l : List UInt8} {i : Nat} (hi : i < 8) (h : (curN i == l) = true) : wantK l (i + 1) = i := by
  have hn : findK l i = none := by
    cases e : findK l i with
    | none => rfl
    | some j => rw [findK_only hi e] at h; cases h
  unfold wantK
  rw [findK_hit hn h]
theorem wantK_miss {l : List UInt8} {i : Nat} (h : (curN i == l) = false) : wantK l (i + 1) = wantK l i := by
  unfold wantK
  cases e : findK l i with
  | none => rw [findK_miss e h]
  | some j => rw [findK_stay e (i + 1) (by omega)]

end Go.Proofs.YtbjjogbnndmmmaaDoor

namespace Go.Proofs.YtbjjogbnndmmmaaDoor
open Go.RowKit Go.Lib
set_option linter.unusedVariables false

set_option maxHeartbeats 1000000 in
set_option maxRecDepth 100000 in
theorem names_long (c : Int) (l : List UInt8) (w : World) (L : LibW w) (C : CurW w) (h : 40 < l.length) :
    Calls Tryd.prog 4 #[.int .i64 c, .string ⟨l.toArray⟩] w fun e w' => e = .returned (.bool true) ∧ Below w.heap.size w w' := by
  have HA := Lib.hid (awakeC_any w L C)
  have h1 : (40 : Int) < (l.length : Int) := by omega
  clear L C
  go_enter Tryd.func4, Tryd.ntmps4
  go_wp2_with fail
  refine HA.out.mono ?_
  rintro e w1 ⟨rfl, hb1⟩
  go_wp2_with fail
  go_ret
  exact ⟨rfl, hb1⟩

set_option maxHeartbeats 1000000 in
set_option maxRecDepth 100000 in
theorem names_no (c : Int) (hc : c < 0 ∨ 8 ≤ c) (l : List UInt8) (w : World) (L : LibW w) (C : CurW w) (h : ¬ 40 < l.length) :
    Calls Tryd.prog 4 #[.int .i64 c, .string ⟨l.toArray⟩] w fun e w' => e = .returned (.bool true) ∧ Below w.heap.size w w' := by
  have HL := Lib.hid L
  have HC := Lib.hid C
  have HA := Lib.hid (fun w L C => awakeC_any w L C)
  have h1 : ¬ (40 : Int) < (l.length : Int) := by omega
  have HO := Lib.hid (fun w C => cof_any l w C)
  have HN := Lib.hid (fun w => name_no c hc w)
  have HD := Lib.hid (fun w => digits_no c hc w)
  have HR := Lib.hid (fun w => rname_no c (by omega) w)
  clear L C hc
  go_enter Tryd.func4, Tryd.ntmps4
  go_wp2_with fail
  refine (HN.out _).mono ?_
  rintro e w1 ⟨rfl, rfl⟩
  go_wp2_with fail
  refine (HD.out _).mono ?_
  rintro e w1 ⟨rfl, rfl⟩
  go_wp2_with fail
  go_loopw [9, 10] (fun vw vi wx => ∃ k : Nat, k ≤ 8 ∧ vi = .int .i64 k ∧ vw = .int .i64 (wantK l k) ∧ Below w.heap.size w wx) (fun _ vi _ => 8 - (RowKit.intOf vi).toNat)
  case atStart => exact ⟨0, by omega, rfl, rfl, Below.refl _ _⟩
  case round =>
    obtain ⟨k, hk, rfl, rfl, hb⟩ := hrel
    have HB0 := Lib.hid hb
    clear hb
    by_cases hlt : k < 8
    · have HK := Lib.hid (fun w => rname_any k hlt w)
      have i1 : (k : Int) < 8 := by omega
      by_cases hE : (curN k == l) = true
      · have HW := Lib.hid (wantK_hit hlt hE)
        generalize curN k = Y at HK hE
        go_wp2_with fail
        refine (HK.out _).mono ?_
        rintro e w1 ⟨rfl, hb1⟩
        go_wp2_with fail
        go_roundw
        case rel => exact ⟨k + 1, by omega, by go_num, by rw [HW.out], bel_up HB0.out hb1⟩
        case measure => simp [RowKit.intOf]; omega
      · have hE' : (curN k == l) = false := by simpa using hE
        have HW := Lib.hid (wantK_miss hE')
        clear hE
        generalize curN k = Y at HK hE'
        go_wp2_with fail
        refine (HK.out _).mono ?_
        rintro e w1 ⟨rfl, hb1⟩
        go_wp2_with fail
        go_roundw
        case rel => exact ⟨k + 1, by omega, by go_num, by rw [HW.out], bel_up HB0.out hb1⟩
        case measure => simp [RowKit.intOf]; omega
    · obtain rfl : k = 8 := by omega
      clear hlt hk
      have HC1 := Lib.hid (HC.out.keep HB0.out)
      have HL1 := Lib.hid (HL.out.keep HB0.out)
      cases hr : findK l 8 with
      | none =>
        have hw : wantK l 8 = -1 := by unfold wantK; rw [hr]
        rw [hr] at HO
        rw [hw]
        clear hw hr
        unfold FindAns at HO
        go_wp2_with fail
        refine (HO.out _ HC1.out).mono ?_
        rintro e w2 ⟨rfl, hb2⟩
        have B2 := Lib.hid (bel_up HB0.out hb2)
        have C2 := Lib.hid (HC1.out.keep hb2)
        have L2 := Lib.hid (HL1.out.keep hb2)
        clear hb2
        go_wp2_with fail
        refine (HR.out _).mono ?_
        rintro e w3 ⟨rfl, hb3⟩
        have B3 := Lib.hid (bel_up B2.out hb3)
        have C3 := Lib.hid (C2.out.keep hb3)
        have L3 := Lib.hid (L2.out.keep hb3)
        clear hb3
        go_wp2_with fail
        refine (HA.out _ L3.out C3.out).mono ?_
        rintro e w5 ⟨rfl, hb5⟩
        go_wp2_with fail
        go_ret
        exact ⟨rfl, bel_up B3.out hb5⟩
      | some j =>
        have hw : wantK l 8 = (j : Int) := by unfold wantK; rw [hr]
        rw [hr] at HO
        rw [hw]
        clear hw hr
        unfold FindAns at HO
        have j0 : ¬ (j : Int) < 0 := by omega
        have j1 : (0 : Int) ≤ (j : Int) := by omega
        go_wp2_with fail
        refine (HO.out _ HC1.out).mono ?_
        rintro e w2 ⟨rfl, hb2⟩
        have B2 := Lib.hid (bel_up HB0.out hb2)
        have C2 := Lib.hid (HC1.out.keep hb2)
        have L2 := Lib.hid (HL1.out.keep hb2)
        clear hb2
        go_wp2_with fail
        refine (HR.out _).mono ?_
        rintro e w3 ⟨rfl, hb3⟩
        have B3 := Lib.hid (bel_up B2.out hb3)
        have C3 := Lib.hid (C2.out.keep hb3)
        have L3 := Lib.hid (L2.out.keep hb3)
        clear hb3
        go_wp2_with fail
        refine (HA.out _ L3.out C3.out).mono ?_
        rintro e w5 ⟨rfl, hb5⟩
        go_wp2_with fail
        go_ret
        exact ⟨rfl, bel_up B3.out hb5⟩

set_option maxHeartbeats 1000000 in
set_option maxRecDepth 100000 in
theorem names_yes (k0 : Nat) (hk0 : k0 < 8) (l : List UInt8) (w : World) (L : LibW w) (C : CurW w) (h : ¬ 40 < l.length) :
    Calls Tryd.prog 4 #[.int .i64 k0, .string ⟨l.toArray⟩] w fun e w' => e = .returned (.bool true) ∧ Below w.heap.size w w' := by
  have HL := Lib.hid L
  have HC := Lib.hid C
  have HA := Lib.hid (fun w L C => awakeC_any w L C)
  have h1 : ¬ (40 : Int) < (l.length : Int) := by omega
  have HO := Lib.hid (fun w C => cof_any l w C)
  have HN := Lib.hid (name_ok k0 hk0 w C)
  have HD := Lib.hid (digits_ok k0 hk0 w C)
  have HR := Lib.hid (fun w => rname_any k0 hk0 w)
  have HRD := Lib.hid (fun w => rdigs_any k0 hk0 w)
  have HB := Lib.hid (fun w C => cof_any (curN k0) w C)
  rw [(findK_name k0 hk0).1] at HB
  unfold FindAns at HB
  have hne : (curN k0 == []) = false := by
    match k0, hk0 with
    | 0, _ => decide
    | 1, _ => decide
    | 2, _ => decide
    | 3, _ => decide
    | 4, _ => decide
    | 5, _ => decide
    | 6, _ => decide
    | 7, _ => decide
  generalize curN k0 = X at HN HR HB hne
  generalize curD k0 = d at HD HRD
  have hXX : (X == X) = true := by simp
  clear L C hk0
  go_enter Tryd.func4, Tryd.ntmps4
  go_wp2_with fail
  refine (HN.out).mono ?_
  rintro e w1 ⟨rfl, rfl⟩
  go_wp2_with fail
  refine (HD.out).mono ?_
  rintro e w1 ⟨rfl, rfl⟩
  go_wp2_with fail
  go_loopw [9, 10] (fun vw vi wx => ∃ k : Nat, k ≤ 8 ∧ vi = .int .i64 k ∧ vw = .int .i64 (wantK l k) ∧ Below w.heap.size w wx) (fun _ vi _ => 8 - (RowKit.intOf vi).toNat)
  case atStart => exact ⟨0, by omega, rfl, rfl, Below.refl _ _⟩
  case round =>
    obtain ⟨k, hk, rfl, rfl, hb⟩ := hrel
    have HB0 := Lib.hid hb
    clear hb
    by_cases hlt : k < 8
    · have HK := Lib.hid (fun w => rname_any k hlt w)
      have i1 : (k : Int) < 8 := by omega
      by_cases hE : (curN k == l) = true
      · have HW := Lib.hid (wantK_hit hlt hE)
        generalize curN k = Y at HK hE
        go_wp2_with fail
        refine (HK.out _).mono ?_
        rintro e w1 ⟨rfl, hb1⟩
        go_wp2_with fail
        go_roundw
        case rel => exact ⟨k + 1, by omega, by go_num, by rw [HW.out], bel_up HB0.out hb1⟩
        case measure => simp [RowKit.intOf]; omega
      · have hE' : (curN k == l) = false := by simpa using hE
        have HW := Lib.hid (wantK_miss hE')
        clear hE
        generalize curN k = Y at HK hE'
        go_wp2_with fail
        refine (HK.out _).mono ?_
        rintro e w1 ⟨rfl, hb1⟩
        go_wp2_with fail
        go_roundw
        case rel => exact ⟨k + 1, by omega, by go_num, by rw [HW.out], bel_up HB0.out hb1⟩
        case measure => simp [RowKit.intOf]; omega
    · obtain rfl : k = 8 := by omega
      clear hlt hk
      have HC1 := Lib.hid (HC.out.keep HB0.out)
      have HL1 := Lib.hid (HL.out.keep HB0.out)
      cases hr : findK l 8 with
      | none =>
        have hw : wantK l 8 = -1 := by unfold wantK; rw [hr]
        rw [hr] at HO
        rw [hw]
        clear hw hr
        unfold FindAns at HO
        go_wp2_with fail
        refine (HO.out _ HC1.out).mono ?_
        rintro e w2 ⟨rfl, hb2⟩
        have B2 := Lib.hid (bel_up HB0.out hb2)
        have C2 := Lib.hid (HC1.out.keep hb2)
        have L2 := Lib.hid (HL1.out.keep hb2)
        clear hb2
        go_wp2_with fail
        refine (HR.out _).mono ?_
        rintro e w3 ⟨rfl, hb3⟩
        have B3 := Lib.hid (bel_up B2.out hb3)
        have C3 := Lib.hid (C2.out.keep hb3)
        have L3 := Lib.hid (L2.out.keep hb3)
        clear hb3
        go_wp2_with fail
        refine (HB.out _ C3.out).mono ?_
        rintro e w4 ⟨rfl, hb4⟩
        have B4 := Lib.hid (bel_up B3.out hb4)
        have C4 := Lib.hid (C3.out.keep hb4)
        have L4 := Lib.hid (L3.out.keep hb4)
        clear hb4
        go_wp2_with fail
        refine (HR.out _).mono ?_
        rintro e w5 ⟨rfl, hb5⟩
        have B5 := Lib.hid (bel_up B4.out hb5)
        have C5 := Lib.hid (C4.out.keep hb5)
        have L5 := Lib.hid (L4.out.keep hb5)
        clear hb5
        go_wp2_with fail
        refine (HRD.out _).mono ?_
        rintro e w6 ⟨rfl, hb6⟩
        have B6 := Lib.hid (bel_up B5.out hb6)
        have C6 := Lib.hid (C5.out.keep hb6)
        have L6 := Lib.hid (L5.out.keep hb6)
        clear hb6
        go_wp2_with fail
        refine (HA.out _ L6.out C6.out).mono ?_
        rintro e w7 ⟨rfl, hb7⟩
        go_wp2_with fail
        go_ret
        exact ⟨rfl, bel_up B6.out hb7⟩
      | some j =>
        have hw : wantK l 8 = (j : Int) := by unfold wantK; rw [hr]
        rw [hr] at HO
        rw [hw]
        clear hw hr
        unfold FindAns at HO
        have j0 : ¬ (j : Int) < 0 := by omega
        have j1 : (0 : Int) ≤ (j : Int) := by omega
        go_wp2_with fail
        refine (HO.out _ HC1.out).mono ?_
        rintro e w2 ⟨rfl, hb2⟩
        have B2 := Lib.hid (bel_up HB0.out hb2)
        have C2 := Lib.hid (HC1.out.keep hb2)
        have L2 := Lib.hid (HL1.out.keep hb2)
        clear hb2
        go_wp2_with fail
        refine (HR.out _).mono ?_
        rintro e w3 ⟨rfl, hb3⟩
        have B3 := Lib.hid (bel_up B2.out hb3)
        have C3 := Lib.hid (C2.out.keep hb3)
        have L3 := Lib.hid (L2.out.keep hb3)
        clear hb3
        go_wp2_with fail
        refine (HB.out _ C3.out).mono ?_
        rintro e w4 ⟨rfl, hb4⟩
        have B4 := Lib.hid (bel_up B3.out hb4)
        have C4 := Lib.hid (C3.out.keep hb4)
        have L4 := Lib.hid (L3.out.keep hb4)
        clear hb4
        go_wp2_with fail
        refine (HR.out _).mono ?_
        rintro e w5 ⟨rfl, hb5⟩
        have B5 := Lib.hid (bel_up B4.out hb5)
        have C5 := Lib.hid (C4.out.keep hb5)
        have L5 := Lib.hid (L4.out.keep hb5)
        clear hb5
        go_wp2_with fail
        refine (HRD.out _).mono ?_
        rintro e w6 ⟨rfl, hb6⟩
        have B6 := Lib.hid (bel_up B5.out hb6)
        have C6 := Lib.hid (C5.out.keep hb6)
        have L6 := Lib.hid (L5.out.keep hb6)
        clear hb6
        go_wp2_with fail
        refine (HA.out _ L6.out C6.out).mono ?_
        rintro e w7 ⟨rfl, hb7⟩
        go_wp2_with fail
        go_ret
        exact ⟨rfl, bel_up B6.out hb7⟩

theorem names_walk (c : Int) (s : ByteArray) (w : World) (L : LibW w) (C : CurW w) :
    Calls Tryd.prog 4 #[.int .i64 c, .string s] w fun e w' => e = .returned (.bool true) ∧ Below w.heap.size w w' := by
  rw [← Lib.mk_data s]
  generalize s.data.toList = l
  by_cases h : 40 < l.length
  · exact names_long c l w L C h
  · by_cases hc : c < 0 ∨ 8 ≤ c
    · exact names_no c hc l w L C h
    · obtain ⟨k, rfl⟩ : ∃ k : Nat, c = k := ⟨c.toNat, by omega⟩
      exact names_yes k (by omega) l w L C h

end Go.Proofs.YtbjjogbnndmmmaaDoor

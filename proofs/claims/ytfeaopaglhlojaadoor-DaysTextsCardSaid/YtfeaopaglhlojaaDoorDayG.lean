/-
  chattellaw04: awake, right; DaysYears's walk.
-/
import Derived.Test.YtfeaopaglhlojaaDoorDayF
namespace Go.Proofs.YtfeaopaglhlojaaDoor
open Go.RowKit Go.Lib
set_option linter.unusedVariables false

theorem right_yes (d : Nat) (w : World) (h : d < 73049) : Calls Tryd.prog 19 #[.int .i64 d] w fun e w' => e = .returned (.bool true) ∧ w = w' := by
  have h0 : (0 : Int) ≤ (d : Int) := by omega
  have h1 : (d : Int) ≤ 73048 := by omega
  go_enter Tryd.func19, Tryd.ntmps19
  go_wp2_with fail
  go_ret
  exact ⟨rfl, rfl⟩
theorem right_no (d : Int) (w : World) (h : d < 0 ∨ 73048 < d) : Calls Tryd.prog 19 #[.int .i64 d] w fun e w' => e = .returned (.bool false) ∧ w = w' := by
  rcases h with h | h
  · go_enter Tryd.func19, Tryd.ntmps19
    go_wp2_with fail
    go_ret
    exact ⟨rfl, rfl⟩
  · have h0 : 0 ≤ d := by omega
    have h1 : ¬ d ≤ 73048 := by omega
    go_enter Tryd.func19, Tryd.ntmps19
    go_wp2_with fail
    go_ret
    exact ⟨rfl, rfl⟩

theorem mon_30 : mon 30 = 0 := mon_eq (by decide) (by decide +kernel) (by decide +kernel)
theorem mon_end : mon 73048 = 2399 := mon_eq (by decide) (by decide +kernel) (by decide +kernel)
theorem on_30 : onN 30 1 = 59 := by unfold onN; rw [mon_30]; decide +kernel
theorem text_end : dayL (yrN 73048) (moN 73048) (daN 73048) = [50, 49, 57, 57, 45, 49, 50, 45, 51, 49] := by
  unfold yrN moN daN; rw [mon_end]; decide +kernel
theorem day_60 : dayN 2000 3 1 = 60 := by decide +kernel
theorem is_60 : IsDate 2000 3 1 := by decide +kernel

set_option maxHeartbeats 1000000 in
set_option maxRecDepth 100000 in
theorem awake4_any (w : World) (L : LenW w) : Calls Tryd.prog 23 #[] w fun e w' => e = .returned (.bool true) ∧ Below w.heap.size w w' := by
  have HA : Hid (Calls Tryd.prog 21 #[.int .i64 2000, .int .i64 3, .int .i64 1] w fun e w' => e = .returned (.tuple #[.int .i64 60, .int .i64 0]) ∧ Below w.heap.size w w') := Lib.hid (by
    have h := day_yes 2000 3 1 is_60 w L
    rw [day_60] at h; exact h)
  have HB : Hid (∀ w, LenW w → Calls Tryd.prog 31 #[.int .i64 30, .int .i64 1] w fun e w' => e = .returned (.tuple #[.int .i64 59, .int .i64 0]) ∧ w = w') := Lib.hid (fun w L => by
    have h := months_ok 30 (by decide) 1 1 (by decide) (by rw [mon_30]; rfl) w L
    rw [on_30] at h; exact h)
  have HC : Hid (∀ w, LenW w → Calls Tryd.prog 24 #[.int .i64 73048] w fun e w' => e = .returned (.tuple #[.string ⟨#[50, 49, 57, 57, 45, 49, 50, 45, 51, 49]⟩, .int .i64 0]) ∧ Below w.heap.size w w') := Lib.hid (fun w L => by
    have h := print_any 73048 (by decide) w L
    rw [text_end] at h; exact h)
  have HD : Hid (∀ w, Calls Tryd.prog 29 #[.int .i64 0] w fun e w' => e = .returned (.tuple #[.int .i64 5, .int .i64 0]) ∧ w = w') := Lib.hid (fun w => week_any 0 (by decide) w)
  have HL := Lib.hid L
  clear L
  go_enter Tryd.func23, Tryd.ntmps23
  go_wp2_with fail
  refine HA.out.mono ?_
  rintro e w1 ⟨rfl, hb1⟩
  have HB1 := Lib.hid hb1
  have HL1 := Lib.hid (HL.out.keep hb1)
  clear hb1
  go_wp2_with fail
  refine (HB.out _ HL1.out).mono ?_
  rintro e w2 ⟨rfl, rfl⟩
  go_wp2_with fail
  refine (HC.out _ HL1.out).mono ?_
  rintro e w2 ⟨rfl, hb2⟩
  have HB2 := Lib.hid (bel_on HB1.out hb2)
  clear hb2
  go_wp2_with fail
  refine (HD.out _).mono ?_
  rintro e w3 ⟨rfl, rfl⟩
  go_wp2_with fail
  go_ret
  exact ⟨rfl, HB2.out⟩

end Go.Proofs.YtfeaopaglhlojaaDoor

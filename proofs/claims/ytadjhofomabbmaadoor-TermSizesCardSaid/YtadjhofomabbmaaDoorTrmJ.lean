/-
  chattellaw05: awake; sort; chattelref05: Kids, Sort; TermOps's walk.
-/
import Derived.Test.YtadjhofomabbmaaDoorTrmI
import Derived.Test.YtadjhofomabbmaaDoorAwake
namespace Go.Proofs.YtadjhofomabbmaaDoor
open Go.RowKit Go.Lib
set_option linter.unusedVariables false

theorem row_keepT {w w' : World} {b o : Nat} {l : List Int} (h : Row w b o l) (hb : Below w.heap.size w w') : Row w' b o l := fun t ht => keepT hb (h t ht)
def awT : List Nd := [⟨13, 0, 0, 0, 0⟩, ⟨1, 0, 0, 2, 1⟩, ⟨10, 0, 0, 0, 0⟩]
def awC : Array Value := #[.int .i64 13, .int .i64 0, .int .i64 0, .int .i64 0, .int .i64 0, .int .i64 1, .int .i64 0, .int .i64 0, .int .i64 2, .int .i64 1, .int .i64 10, .int .i64 0, .int .i64 0, .int .i64 0, .int .i64 0]
theorem awT_at (w : World) (t : TypeId) : NdA (w.alloc (.cells awC t)) w.heap.size 0 awT := by
  intro j hj
  have hj' : j < 3 := hj
  refine ⟨?_, ?_, ?_, ?_, ?_⟩
  all_goals rw [World.cell?_alloc_at _ _ _ _ rfl]
  all_goals match j, hj' with
    | 0, _ => rfl
    | 1, _ => rfl
    | 2, _ => rfl
theorem awT_bd : BdT awT := by
  intro p hp
  have hj' : p < 3 := hp
  match p, hj' with
  | 0, _ => exact ⟨⟨by decide, by decide⟩, ⟨by decide, by decide⟩⟩
  | 1, _ => exact ⟨⟨by decide, by decide⟩, ⟨by decide, by decide⟩⟩
  | 2, _ => exact ⟨⟨by decide, by decide⟩, ⟨by decide, by decide⟩⟩
theorem awT_whole : WholeT awT := by decide
theorem awT_tm : TmA awT 0 := awT_whole.tm.1
theorem awT_chk : chkK awT = 0 := by
  have h1 : ¬ 64 < awT.length := by decide
  have h2 : ∀ p, p < awT.length → fldO (awT.getD p default) = true := by decide
  have h3 : ∀ p, p < awT.length → SrtA awT p := by unfold SrtA; decide
  have h4 : ¬ 12 < dpA awT 0 := by decide
  have e : ofK awT = (2, 0) := by
    unfold ofK
    rw [if_neg h1, if_neg (fun h => h awT_whole), if_neg (fun h => h h2), if_neg (fun h => h h3), if_neg h4]; rfl
  unfold chkK
  rw [e]; rfl

set_option maxHeartbeats 2000000 in
set_option maxRecDepth 100000 in
theorem awake5_any (w : World) (C : KndW w) : Calls Tryd.prog 18 #[] w fun e w' => e = .returned (.bool true) ∧ Below w.heap.size w w' := by
  have HN : Hid (NdA (w.alloc (.cells awC 55)) w.heap.size 0 awT) := Lib.hid (awT_at w _)
  have HC : Hid (KndW (w.alloc (.cells awC 55))) := Lib.hid (C.keep (newB _ _))
  have HB0 := Lib.hid (newB w (.cells awC 55))
  unfold awC at HN HC HB0
  clear C
  go_enter Tryd.func18, Tryd.ntmps18
  go_wp2_with fail
  obtain ⟨W1, hW1⟩ : ∃ W1, W1 = w.alloc (.cells #[.int .i64 13, .int .i64 0, .int .i64 0, .int .i64 0, .int .i64 0, .int .i64 1, .int .i64 0, .int .i64 0, .int .i64 2, .int .i64 1, .int .i64 10, .int .i64 0, .int .i64 0, .int .i64 0, .int .i64 0] 55) := ⟨_, rfl⟩
  rw [← hW1] at HN HC HB0 ⊢
  clear hW1
  have HS : Hid (∀ W, Below W1.heap.size W1 W → Calls Tryd.prog 19 #[.slice (some ⟨w.heap.size, 0, none⟩) 3 3, .int .i64 0] W fun e w' => e = .returned (.tuple #[.int .i64 3, .int .i64 0]) ∧ Below W.heap.size W w') := Lib.hid (fun W hb => size_in awT (by decide) w.heap.size 0 3 (by decide) (by omega) 0 (by decide) W (HN.out.keep hb) (HC.out.keep hb))
  have HBl : Hid (∀ W, Below W1.heap.size W1 W → Calls Tryd.prog 20 #[.slice (some ⟨w.heap.size, 0, none⟩) 3 3, .int .i64 0] W fun e w' => ∃ v, e = .returned (.tuple #[v, .int .i64 0]) ∧ YtadjhofomabbmaaDoor.Own w' W.heap.size v [1, 2] ∧ Below W.heap.size W w') := Lib.hid (fun W hb => below_ok awT (by decide) w.heap.size 0 3 0 (by decide) (by omega) awT_tm W (HN.out.keep hb) (HC.out.keep hb))
  have HCk : Hid (∀ W, Below W1.heap.size W1 W → Calls Tryd.prog 26 #[.slice (some ⟨w.heap.size, 0, none⟩) 3 3] W fun e w' => e = .returned (.int .i64 0) ∧ Below W.heap.size W w') := Lib.hid (fun W hb => by
    have := tcheck_any awT (by decide) awT_bd (.slice (some ⟨w.heap.size, 0, none⟩) 3 3) W (.inr ⟨by decide, w.heap.size, 0, 3, rfl, by decide, by omega, HN.out.keep hb⟩) (HC.out.keep hb)
    rw [awT_chk] at this; exact this)
  refine (HS.out _ (Below.refl _ _)).mono ?_
  rintro e w2 ⟨rfl, hb2⟩
  have HB2 := Lib.hid hb2
  clear hb2
  go_wp2_with fail
  refine (HBl.out _ HB2.out).mono ?_
  rintro e w3 ⟨v, rfl, hown, hb3⟩
  have HB3 := Lib.hid (onB HB2.out hb3)
  have HO := Lib.hid hown
  rcases hown.reads with ⟨_, hx⟩ | ⟨g, cap3, rfl, hg0, hg1, hrow⟩
  · cases hx
  have HRow := Lib.hid hrow
  clear hb3 hown hrow
  go_wp2_with fail
  obtain ⟨W3, hW3⟩ : ∃ W3, W3 = w3.alloc (.cells #[.int .i64 12, .int .i64 0, .int .i64 0, .int .i64 0, .int .i64 0] 55) := ⟨_, rfl⟩
  have HB4 : Hid (Below w3.heap.size w3 W3) := Lib.hid (by rw [hW3]; exact newB _ _)
  have HN3 : Hid (NdA W3 w3.heap.size 0 [⟨12, 0, 0, 0, 0⟩]) := Lib.hid (by
    intro j hj
    have hj' : j < 1 := hj
    obtain rfl : j = 0 := by omega
    rw [hW3]
    refine ⟨?_, ?_, ?_, ?_, ?_⟩
    all_goals rw [World.cell?_alloc_at _ _ _ _ rfl]
    all_goals rfl)
  have HBB : Hid (Below W1.heap.size W1 W3) := Lib.hid (onB HB3.out HB4.out)
  rw [← hW3]
  clear hW3
  have HS3 : Hid (Calls Tryd.prog 19 #[.slice (some ⟨w3.heap.size, 0, none⟩) 1 1, .int .i64 0] W3 fun e w' => e = .returned (.tuple #[.int .i64 0, .int .i64 13]) ∧ Below W3.heap.size W3 w') := Lib.hid (size_in [⟨12, 0, 0, 0, 0⟩] (by decide) w3.heap.size 0 1 (by decide) (by omega) 0 (by decide) W3 HN3.out (HC.out.keep HBB.out))
  refine HS3.out.mono ?_
  rintro e w4 ⟨rfl, hb4⟩
  have HB5 := Lib.hid (onB HBB.out hb4)
  have HG := Lib.hid (onB HB4.out hb4)
  clear hb4
  go_wp2_with fail
  have HI := Lib.hid (ints_row [1, 2] [1, 2] g 0 cap3 w4.heap.size 0 2 (w4.alloc (.cells #[.int .i64 1, .int .i64 2] 3)) (row_keepT HRow.out (onB HG.out (newB _ _))) (by
    intro j hj
    have hj' : j < 2 := hj
    rw [World.cell?_alloc_at _ _ _ _ rfl]
    match j, hj' with
    | 0, _ => rfl
    | 1, _ => rfl) (by decide) (by decide))
  refine HI.out.mono ?_
  rintro e w5 ⟨rfl, q, rfl⟩
  have HB6 := Lib.hid (onB HB5.out (onB (newB w4 (.cells #[.int .i64 1, .int .i64 2] 3)) (below_drewT _ q)))
  have hdec : (decide (([1, 2] : List Int) = [1, 2])) = true := by decide
  rw [hdec]
  clear hdec
  go_wp2_with fail
  refine (HCk.out _ HB6.out).mono ?_
  rintro e w6 ⟨rfl, hb6⟩
  have HB7 := Lib.hid (onB HB0.out (onB HB6.out hb6))
  clear hb6
  go_wp2_with fail
  go_ret
  exact ⟨rfl, HB7.out⟩

end Go.Proofs.YtadjhofomabbmaaDoor

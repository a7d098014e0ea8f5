/-
  chattellaw06.TextPrints: its walk.
-/
import Derived.Test.YtmaiecbhloagoaaGreatDoorPsS
namespace Go.Proofs.YtmaiecbhloagoaaGreatDoor
open Go.RowKit Go.Lib
set_option linter.unusedVariables false
set_option linter.unusedSimpArgs false

set_option maxRecDepth 100000 in
set_option maxHeartbeats 2000000 in
theorem prints_walk (t : List Nd) (a : Option Addr) (cap : Nat) (hl : t.length ≤ 9223372036854775807) (hbd : BdT t) (w : World) (hs : SlT w (.slice a t.length cap) t) (T : TabW w) :
    Calls Tryz.prog 3 #[.slice a t.length cap] w fun e w' => e = .returned (.bool true) ∧ Below w.heap.size w w' := by
  have HAw := Lib.hid (fun (w' : World) (hb : Below w.heap.size w w') => awake6_any w' (T.keep hb))
  by_cases h100 : 100 < t.length
  · have i1 : (100 : Int) < (t.length : Int) := by omega
    clear hbd hs T h100
    go_enter Tryz.func3, Tryz.ntmps3
    go_wp2_with fail
    refine (HAw.out _ (Below.refl _ _)).mono ?_
    rintro e w1 ⟨rfl, hb1⟩
    go_wp2_with fail
    go_ret
    exact ⟨rfl, hb1⟩
  · have i1 : ¬ (100 : Int) < (t.length : Int) := by omega
    have HPr := Lib.hid (tprint_any t (by omega) hbd _ w hs T)
    have HCk := Lib.hid (fun (w' : World) (hb : Below w.heap.size w w') => rchkT_any t hl hbd _ w' (hs.keep hb))
    by_cases hc : chkK t = 0
    · obtain ⟨h64, hW, hok⟩ := chk_ok hc hbd
      have hpos : 0 < t.length := hW.tm.1.lt
      have e : prX t = prF t (szA t 0) 0 := by unfold prX prT; rw [if_pos hc]
      rcases hs with ⟨rfl, _⟩ | ⟨_, b, o, cp, hv, hcap, hcm, hN⟩
      · exact absurd hpos (by simp)
      injection hv with e1 _ e3
      subst e1 e3
      have HR := Lib.hid (fun (w' : World) (hb : Below w.heap.size w w') => rpr_any t h64 hok b o cap hcap hcm (szA t 0) 0 hW.tm.1 (Nat.le_refl _) w' (hN.keep hb))
      rw [← e] at HR
      rw [hc] at HPr HCk
      generalize prX t = X at *
      generalize 0 + szA t 0 = z at *
      clear hN hok hW hbd T e h100 hc hpos
      go_enter Tryz.func3, Tryz.ntmps3
      go_wp2_with fail
      refine HPr.out.mono ?_
      rintro e w1 ⟨rfl, hb1⟩
      have HB1 := Lib.hid hb1
      clear hb1
      go_wp2_with fail
      refine (HCk.out _ HB1.out).mono ?_
      rintro e w2 ⟨rfl, hb2⟩
      have HB2 := Lib.hid (onB HB1.out hb2)
      clear hb2
      go_wp2_with fail
      refine (HR.out _ HB2.out).mono ?_
      rintro e w3 ⟨rfl, hb3⟩
      have HB3 := Lib.hid (onB HB2.out hb3)
      clear hb3
      go_wp2_with fail
      refine (HAw.out _ HB3.out).mono ?_
      rintro e w4 ⟨rfl, hb4⟩
      have HB4 := Lib.hid (onB HB3.out hb4)
      clear hb4
      go_wp2_with fail
      go_ret
      exact ⟨rfl, HB4.out⟩
    · have e : prX t = [] := by unfold prX; rw [if_neg hc]
      rw [e] at HPr
      have h1 : ((chkK t : Int) == 0) = false := by simp; omega
      generalize chkK t = r at *
      clear hs T hbd e hc h100
      go_enter Tryz.func3, Tryz.ntmps3
      go_wp2_with fail
      refine HPr.out.mono ?_
      rintro e w1 ⟨rfl, hb1⟩
      have HB1 := Lib.hid hb1
      clear hb1
      go_wp2_with fail
      refine (HCk.out _ HB1.out).mono ?_
      rintro e w2 ⟨rfl, hb2⟩
      have HB2 := Lib.hid (onB HB1.out hb2)
      clear hb2
      go_wp2_with fail
      refine (HAw.out _ HB2.out).mono ?_
      rintro e w3 ⟨rfl, hb3⟩
      have HB3 := Lib.hid (onB HB2.out hb3)
      clear hb3
      go_wp2_with fail
      go_ret
      exact ⟨rfl, HB3.out⟩

end Go.Proofs.YtmaiecbhloagoaaGreatDoor

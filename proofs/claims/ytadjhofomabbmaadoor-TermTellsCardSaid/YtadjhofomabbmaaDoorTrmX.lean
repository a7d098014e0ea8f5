/-
  chattellaw05: TermTells's walk.
-/
import Derived.Test.YtadjhofomabbmaaDoorTrmW
namespace Go.Proofs.YtadjhofomabbmaaDoor
open Go.RowKit Go.Lib
set_option linter.unusedVariables false
set_option linter.unusedSimpArgs false

set_option maxHeartbeats 2000000 in
set_option maxRecDepth 100000 in
theorem tells_far (a : Option Addr) (len cap : Nat) (h : 100 < len) (hl : len ≤ 9223372036854775807) (w : World) (C : KndW w) :
    Calls Tryd.prog 7 #[.slice a len cap] w fun e w' => e = .returned (.bool true) ∧ Below w.heap.size w w' := by
  have HAw := Lib.hid (awake5_any w C)
  have h1 : (100 : Int) < (len : Int) := by omega
  clear C
  go_enter Tryd.func7, Tryd.ntmps7
  go_wp2_with fail
  refine HAw.out.mono ?_
  rintro e w1 ⟨rfl, hb⟩
  go_wp2_with fail
  go_ret
  exact ⟨rfl, hb⟩

set_option maxHeartbeats 4000000 in
set_option maxRecDepth 100000 in
theorem tells_bad (t : List Nd) (hl : t.length ≤ 100) (hbd : BdT t) (v : Value) (a : Option Addr) (cap : Nat) (hv : v = .slice a t.length cap) (w : World) (hs : SlT w v t) (C : KndW w) (hk : chkK t ≠ 0) :
    Calls Tryd.prog 7 #[v] w fun e w' => e = .returned (.bool true) ∧ Below w.heap.size w w' := by
  have HAw := Lib.hid (fun w C => awake5_any w C)
  have HC := Lib.hid C
  have HS := Lib.hid hs
  have hd : dpK t = 0 := by unfold dpK; rw [if_neg hk]
  have hh : hzK t = 0 := by unfold hzK; rw [if_neg hk]
  have hD := fun w hs C => tdepth_any t hl hbd v w hs C
  have hH := fun w hs C => horizon_any t hl hbd v w hs C
  have HK := Lib.hid (fun w hs C => (keys_any t hl hbd v w hs C).mono (fun e w' h => (⟨h.1.1 hk, h.2⟩ : e = .returned (.tuple #[.slice none 0 0, .int .i64 (chkK t)]) ∧ Below w.heap.size w w')))
  have HCh := Lib.hid (fun w hs C => (choices_any t hl hbd v w hs C).mono (fun e w' h => (⟨h.1.1 hk, h.2⟩ : e = .returned (.tuple #[.slice none 0 0, .int .i64 (chkK t)]) ∧ Below w.heap.size w w')))
  have HR := Lib.hid (fun w hs => rchkT_any t (by omega) hbd v w hs)
  rw [hd] at hD
  rw [hh] at hH
  have HD := Lib.hid hD
  have HH := Lib.hid hH
  have h1 : ¬ (100 : Int) < (t.length : Int) := by omega
  have hb : ((chkK t : Int) == 0) = false := beq_false_of_ne (by omega)
  subst hv
  clear hs C hk hbd hD hH hd hh
  generalize chkK t = ck at *
  go_enter Tryd.func7, Tryd.ntmps7
  go_wp2_with fail
  refine (HD.out _ HS.out HC.out).mono ?_
  rintro e w1 ⟨rfl, hb1⟩
  have HB1 := Lib.hid hb1
  clear hb1
  go_wp2_with fail
  refine (HH.out _ (HS.out.keep HB1.out) (HC.out.keep HB1.out)).mono ?_
  rintro e w2 ⟨rfl, hb2⟩
  have HB2 := Lib.hid (onB HB1.out hb2)
  clear hb2
  go_wp2_with fail
  refine (HK.out _ (HS.out.keep HB2.out) (HC.out.keep HB2.out)).mono ?_
  rintro e w3 ⟨rfl, hb3⟩
  have HB3 := Lib.hid (onB HB2.out hb3)
  clear hb3
  go_wp2_with fail
  refine (HCh.out _ (HS.out.keep HB3.out) (HC.out.keep HB3.out)).mono ?_
  rintro e w4 ⟨rfl, hb4⟩
  have HB4 := Lib.hid (onB HB3.out hb4)
  clear hb4
  go_wp2_with fail
  refine (HR.out _ (HS.out.keep HB4.out)).mono ?_
  rintro e w5 ⟨rfl, hb5⟩
  have HB5 := Lib.hid (onB HB4.out hb5)
  clear hb5
  go_wp2_with fail
  refine (HAw.out _ (HC.out.keep HB5.out)).mono ?_
  rintro e w6 ⟨rfl, hb6⟩
  go_wp2_with fail
  go_ret
  exact ⟨rfl, onB HB5.out hb6⟩

set_option maxHeartbeats 8000000 in
set_option maxRecDepth 100000 in
theorem tells_ok (t : List Nd) (hl : t.length ≤ 100) (hbd : BdT t) (b o cap : Nat) (h0 : 0 < t.length) (hcap : t.length ≤ cap) (hcm : cap ≤ 9223372036854775807) (w : World) (hN : NdA w b o t) (C : KndW w) (hk : chkK t = 0) :
    Calls Tryd.prog 7 #[.slice (some ⟨b, o, none⟩) t.length cap] w fun e w' => e = .returned (.bool true) ∧ Below w.heap.size w w' := by
  have HAw := Lib.hid (fun w C => awake5_any w C)
  have HC := Lib.hid C
  have HN := Lib.hid hN
  have HS : Hid (∀ w', Below w.heap.size w w' → SlT w' (.slice (some ⟨b, o, none⟩) t.length cap) t) := Lib.hid (fun w' hb => .inr ⟨h0, b, o, cap, rfl, hcap, hcm, hN.keep hb⟩)
  have hd : dpK t = dpA t 0 := by unfold dpK; rw [if_pos hk]
  have hh : hzK t = hzN t t.length := by unfold hzK; rw [if_pos hk]
  have hD := fun w hs C => tdepth_any t hl hbd (.slice (some ⟨b, o, none⟩) t.length cap) w hs C
  have hH := fun w hs C => horizon_any t hl hbd (.slice (some ⟨b, o, none⟩) t.length cap) w hs C
  have HK := Lib.hid (fun w hs C => (keys_any t hl hbd (.slice (some ⟨b, o, none⟩) t.length cap) w hs C).mono (fun e w' h => (⟨h.1.2 hk, h.2⟩ : (∃ v', e = .returned (.tuple #[v', .int .i64 0]) ∧ YtadjhofomabbmaaDoor.Own w' w.heap.size v' (kyN t (pT 2 2) 64)) ∧ Below w.heap.size w w')))
  have HCh := Lib.hid (fun w hs C => (choices_any t hl hbd (.slice (some ⟨b, o, none⟩) t.length cap) w hs C).mono (fun e w' h => (⟨h.1.2 hk, h.2⟩ : (∃ v', e = .returned (.tuple #[v', .int .i64 0]) ∧ YtadjhofomabbmaaDoor.Own w' w.heap.size v' (kyN t (pT 16 17) 64)) ∧ Below w.heap.size w w')))
  have hR := fun w hs => rchkT_any t (by omega) hbd (.slice (some ⟨b, o, none⟩) t.length cap) w hs
  have HDp := Lib.hid (fun w hN => rdep_ok t (by omega) b o cap hcap 0 ((ofK_zero (chk_zero hk).1).2.1.all 0 h0) w hN)
  have HRK := Lib.hid (fun w hN => rkeys_main t hl b o cap hcap hcm 2 2 w hN)
  have HRL := Lib.hid (fun w hN => rkeys_main t hl b o cap hcap hcm 16 17 w hN)
  rw [hd, hk] at hD
  rw [hh, hk] at hH
  rw [hk] at hR
  have HD := Lib.hid hD
  have HH := Lib.hid hH
  have HR := Lib.hid hR
  have h1 : ¬ (100 : Int) < (t.length : Int) := by omega
  have h4 : (t.length : Int) ≤ (cap : Int) := by omega
  have HI1 := Lib.hid (fun v v' base base' w h h' => ints_own (kyN t (pT 2 2) 64) (by have := kyN_len t (pT 2 2) 64; omega) v v' base base' w h h')
  have HI2 := Lib.hid (fun v v' base base' w h h' => ints_own (kyN t (pT 16 17) 64) (by have := kyN_len t (pT 16 17) 64; omega) v v' base base' w h h')
  clear C hk hbd hD hH hd hh hR hN
  go_enter Tryd.func7, Tryd.ntmps7
  go_wp2_with fail
  refine (HD.out _ (HS.out _ (Below.refl _ _)) HC.out).mono ?_
  rintro e w1 ⟨rfl, hb1⟩
  have HB1 := Lib.hid hb1
  clear hb1
  go_wp2_with fail
  refine (HH.out _ (HS.out _ HB1.out) (HC.out.keep HB1.out)).mono ?_
  rintro e w2 ⟨rfl, hb2⟩
  have HB2 := Lib.hid (onB HB1.out hb2)
  clear hb2
  go_wp2_with fail
  refine (HK.out _ (HS.out _ HB2.out) (HC.out.keep HB2.out)).mono ?_
  rintro e w3 ⟨⟨vk, rfl, hok⟩, hb3⟩
  have HB3 := Lib.hid (onB HB2.out hb3)
  have HOk := Lib.hid hok
  clear hb3 hok
  go_wp2_with fail
  refine (HCh.out _ (HS.out _ HB3.out) (HC.out.keep HB3.out)).mono ?_
  rintro e w4 ⟨⟨vc, rfl, hoc⟩, hb4⟩
  have HB4 := Lib.hid (onB HB3.out hb4)
  have HOc := Lib.hid hoc
  have HOk4 := Lib.hid (HOk.out.grown hb4)
  clear hb4 hoc
  go_wp2_with fail
  refine (HR.out _ (HS.out _ HB4.out)).mono ?_
  rintro e w5 ⟨rfl, hb5⟩
  have HB5 := Lib.hid (onB HB4.out hb5)
  have HOc5 := Lib.hid (HOc.out.grown hb5)
  have HOk5 := Lib.hid (HOk4.out.grown hb5)
  clear hb5
  go_wp2_with fail
  go_loopw [12, 13] (fun vm vk wx => ∃ k : Nat, k ≤ t.length ∧ vk = .int .i64 k ∧ vm = .int .i64 (hzN t k) ∧ wx = w5) (fun _ vk _ => t.length - (RowKit.intOf vk).toNat)
  case atStart => exact ⟨0, Nat.zero_le _, rfl, rfl, rfl⟩
  case round =>
    obtain ⟨k, hk, rfl, rfl, rfl⟩ := hrel
    by_cases hlt : k < t.length
    · have j0 : (0 : Int) ≤ (k : Int) := by omega
      have j1 : (k : Int) < (t.length : Int) := by omega
      have hnc := (HN.out.keep HB5.out) k hlt
      obtain ⟨nd, hnd⟩ : ∃ nd, nd = t.getD k default := ⟨_, rfl⟩
      rw [← hnd] at hnc
      have HLs : Hid (hzN t (k + 1) = if nd.op = 14 then max (hzN t k) nd.a else if nd.op = 17 then max (hzN t k) nd.b else hzN t k) := Lib.hid (by rw [hnd]; rfl)
      obtain ⟨e0, e1, e2, e3, e4⟩ := hnc
      clear hnd
      generalize hzN t k = m at *
      by_cases h14 : nd.op = 14
      · have b1 : (nd.op == 14) = true := by simp [h14]
        have b2 : (nd.op == 17) = false := by simp [h14]
        rw [if_pos h14] at HLs
        clear h14
        go_wp2_with fail
        go_roundw
        case rel => exact ⟨k + 1, by omega, by go_num, by rw [HLs.out], by first | rfl | trivial⟩
        case measure => simp [RowKit.intOf]; omega
      · have b1 : (nd.op == 14) = false := beq_false_of_ne h14
        rw [if_neg h14] at HLs
        clear h14
        by_cases h17 : nd.op = 17
        · have b2 : (nd.op == 17) = true := by simp [h17]
          rw [if_pos h17] at HLs
          clear h17
          go_wp2_with fail
          go_roundw
          case rel => exact ⟨k + 1, by omega, by go_num, by rw [HLs.out], by first | rfl | trivial⟩
          case measure => simp [RowKit.intOf]; omega
        · have b2 : (nd.op == 17) = false := beq_false_of_ne h17
          rw [if_neg h17] at HLs
          clear h17
          go_wp2_with fail
          go_roundw
          case rel => exact ⟨k + 1, by omega, by go_num, by rw [HLs.out], by first | rfl | trivial⟩
          case measure => simp [RowKit.intOf]; omega
    · obtain rfl : k = t.length := by omega
      generalize hzN t t.length = hz at *
      generalize dpA t 0 = dp at *
      generalize kyN t (pT 16 17) 64 = kc at *
      generalize kyN t (pT 2 2) 64 = kk at *
      go_wp2_with fail
      refine (HDp.out _ (HN.out.keep HB5.out)).mono ?_
      rintro e w6 ⟨rfl, hb6⟩
      have HB6 := Lib.hid (onB HB5.out hb6)
      have HOk6 := Lib.hid (HOk5.out.grown hb6)
      have HOc6 := Lib.hid (HOc5.out.grown hb6)
      clear hb6
      go_wp2_with fail
      refine (HRK.out _ (HN.out.keep HB6.out)).mono ?_
      rintro e w7 ⟨vr, rfl, hr, hb7⟩
      have HB7 := Lib.hid (onB HB6.out hb7)
      have HOk7 := Lib.hid (HOk6.out.grown hb7)
      have HOc7 := Lib.hid (HOc6.out.grown hb7)
      have HOr7 := Lib.hid hr
      clear hb7 hr
      go_wp2_with fail
      refine (HI1.out _ _ _ _ _ HOk7.out HOr7.out).mono ?_
      rintro e w8 ⟨rfl, hb8⟩
      have HB8 := Lib.hid (onB HB7.out hb8)
      have HOc8 := Lib.hid (HOc7.out.grown hb8)
      clear hb8
      go_wp2_with fail
      refine (HRL.out _ (HN.out.keep HB8.out)).mono ?_
      rintro e w9 ⟨vs, rfl, hr, hb9⟩
      have HB9 := Lib.hid (onB HB8.out hb9)
      have HOc9 := Lib.hid (HOc8.out.grown hb9)
      have HOs9 := Lib.hid hr
      clear hb9 hr
      go_wp2_with fail
      refine (HI2.out _ _ _ _ _ HOc9.out HOs9.out).mono ?_
      rintro e w10 ⟨rfl, hb10⟩
      have HB10 := Lib.hid (onB HB9.out hb10)
      clear hb10
      go_wp2_with fail
      refine (HAw.out _ (HC.out.keep HB10.out)).mono ?_
      rintro e w11 ⟨rfl, hb11⟩
      go_wp2_with fail
      go_ret
      exact ⟨rfl, onB HB10.out hb11⟩

theorem tells_walk (t : List Nd) (a : Option Addr) (cap : Nat) (hl : t.length ≤ 9223372036854775807) (hbd : BdT t) (w : World) (hs : SlT w (.slice a t.length cap) t) (C : KndW w) :
    Calls Tryd.prog 7 #[.slice a t.length cap] w fun e w' => e = .returned (.bool true) ∧ Below w.heap.size w w' := by
  by_cases h : 100 < t.length
  · exact tells_far a _ cap h hl w C
  · by_cases hk : chkK t = 0
    · obtain ⟨h0, b, o, c, hv, hc1, hc2, hN⟩ := chk_sl hk hs
      injection hv with q1 q2 q3
      subst q1 q3
      exact tells_ok t (by omega) hbd b o _ h0 hc1 hc2 w hN C hk
    · exact tells_bad t (by omega) hbd _ a cap rfl w hs C hk

end Go.Proofs.YtadjhofomabbmaaDoor

/-
  amount.Split: what it answers.
-/
import Derived.Test.YtbjjogbnndmmmaaShare
namespace Go.Proofs.Ytbjjogbnndmmmaa
open Go.RowKit Go.Sort
set_option linter.unusedVariables false

/-- What is wrong with the weights is told. -/
theorem split_bad (T : Int) (v : Value) (er : Int) (w : World) (h : Calls Try.prog 11 #[v] w fun e w' => e = .returned (.tuple #[.int .i64 0, .int .i64 er]) ∧ w = w') (her : er ≠ 0) :
    Calls Try.prog 5 #[.int .i64 T, v] w fun e w' => e = .returned (.tuple #[.slice none 0 0, .int .i64 er]) ∧ w = w' := by
  have H := Lib.hid h
  have hb : (er != 0) = true := by simpa using her
  clear h her
  go_enter Try.func5, Try.ntmps5
  go_wp2_with (go_at_call 11; refine H.out.mono ?_; rintro e w' ⟨rfl, rfl⟩)
  go_ret2
  exact ⟨rfl, rfl⟩

theorem split_min (v : Value) (S : Int) (w : World) (h : Calls Try.prog 11 #[v] w fun e w' => e = .returned (.tuple #[.int .i64 S, .int .i64 0]) ∧ w = w') :
    Calls Try.prog 5 #[.int .i64 (-9223372036854775808), v] w fun e w' => e = .returned (.tuple #[.slice none 0 0, .int .i64 11]) ∧ w = w' := by
  have H := Lib.hid h
  clear h
  go_enter Try.func5, Try.ntmps5
  go_wp2_with (go_at_call 11; refine H.out.mono ?_; rintro e w' ⟨rfl, rfl⟩)
  go_ret2
  exact ⟨rfl, rfl⟩

theorem split_zero (T : Int) (v : Value) (w : World) (h : Calls Try.prog 11 #[v] w fun e w' => e = .returned (.tuple #[.int .i64 0, .int .i64 0]) ∧ w = w') (hT : T ≠ -9223372036854775808) :
    Calls Try.prog 5 #[.int .i64 T, v] w fun e w' => e = .returned (.tuple #[.slice none 0 0, .int .i64 12]) ∧ w = w' := by
  have H := Lib.hid h
  have hb : (T == -9223372036854775808) = false := by simpa using hT
  clear h hT
  go_enter Try.func5, Try.ntmps5
  go_wp2_with (go_at_call 11; refine H.out.mono ?_; rintro e w' ⟨rfl, rfl⟩)
  go_ret2
  exact ⟨rfl, rfl⟩

/-- Where the turning of signs stands. -/
structure TurnInv (p : Nat → Int) (w w1 : World) (n k : Nat) (wx : World) : Prop where
  below : Below w.heap.size w wx
  size : w.heap.size < wx.heap.size
  par : ∀ t, t < n → wx.cell? ⟨w.heap.size, 0 + t, none⟩ = some (.int .i64 (if t < k then -(p t) else p t))
  frz : ∀ t, t < n → wx.frozen? ⟨w.heap.size, 0 + t, none⟩ = false

theorem TurnInv.step {p : Nat → Int} {w w1 wx : World} {n k : Nat} (h : TurnInv p w w1 n k wx) (hk : k < n) : TurnInv p w w1 n (k + 1) (wx.setCell ⟨w.heap.size, k, none⟩ (.int .i64 (-(p k)))) := by
  refine ⟨h.below.setCell (Nat.le_refl _) _, by simpa using h.size, fun t ht => ?_, fun t ht => ?_⟩
  · rw [Nat.zero_add]
    have := h.par t ht
    rw [Nat.zero_add] at this
    by_cases e : t = k
    · subst e; rw [cell_same this, if_pos (by omega)]
    · rw [cell_other (addr_ne_off (by omega)), this]
      by_cases c : t < k
      · rw [if_pos c, if_pos (by omega)]
      · rw [if_neg c, if_neg (by omega)]
  · rw [World.frozen?_setCell]; exact h.frz t ht

set_option maxHeartbeats 4000000 in
set_option maxRecDepth 100000 in
theorem split_ok (T : Int) (l : List Int) (b o cap : Nat) (w : World) (hb : b < w.heap.size) (hr : Row w b o l) (hi : InI l) (hnn : NonNeg l) (h0 : 0 < l.length) (h64 : l.length ≤ 64) (hS : 0 < sumL l) (hS1 : sumL l ≤ 9223372036854775807)
    (hT : -9223372036854775807 ≤ T) (hT1 : T ≤ 9223372036854775807) :
    Calls Try.prog 5 #[.int .i64 T, .slice (some ⟨b, o, none⟩) l.length cap] w (SplitPost T l w) := by
  have hin : inR (sumL l) = true := (inR_iff _).2 ⟨by omega, hS1⟩
  have hwg := weigh_sum l b o cap w hr hi h0 h64 (fun t _ => hnn t)
  rw [fitN_in hin, fitE_in hin] at hwg
  have HWg := Lib.hid hwg
  have ha0 : 0 ≤ absI T := by unfold absI; omega
  have ha1 : absI T ≤ 9223372036854775807 := by unfold absI; omega
  have HSh := Lib.hid (share_walk (absI T) l b o cap w hb hr hnn h0 h64 hS hS1 ha0 ha1)
  have hTb : (T == -9223372036854775808) = false := by simp; omega
  have hSb : (sumL l == 0) = false := by simp; omega
  have HPB : Hid (∀ (d : Array Int) t, t < l.length → 0 ≤ partF (absI T) l d t ∧ partF (absI T) l d t ≤ absI T) := Lib.hid (fun d t ht => partF_bd ha0 hS hnn ht)
  obtain ⟨S, hSe⟩ : ∃ S, S = sumL l := ⟨_, rfl⟩
  rw [← hSe] at HWg HSh hSb hS hS1
  have HSe := Lib.hid hSe
  clear hwg hin hr hi hnn hSe
  by_cases hneg : T < 0
  · go_enter Try.func5, Try.ntmps5
    go_wp2_with (first | (go_at_call 11; refine HWg.out.mono ?_; rintro e w' ⟨rfl, rfl⟩) | (go_at_call 13; refine (size_any _ _ (by omega) (by omega)).mono ?_; rintro e w' ⟨rfl, rfl⟩) | (go_at_call 12; refine HSh.out.mono ?_; rintro e w' ⟨rfl, d, h1, h2, h3, h4, h5, h6⟩))
    have HO : Hid (Ordered (absI T) l d) := Lib.hid ⟨h1, h2⟩
    have HT0 : Hid (TurnInv (partF (absI T) l d) w w' l.length 0 w') := Lib.hid ⟨h3, h4, fun t ht => by rw [if_neg (by omega)]; exact h5 t ht, h6⟩
    clear h1 h2 h3 h4 h5 h6
    go_loopw [9, 32] (fun vv vi wx => ∃ k : Nat, k ≤ l.length ∧ vi = .int .i64 k ∧ TurnInv (partF (absI T) l d) w w' l.length k wx) (fun _ vi _ => l.length - (intOf vi).toNat)
    case atStart => exact ⟨0, Nat.zero_le _, rfl, HT0.out⟩
    case round =>
      obtain ⟨k, hk, rfl, hinv⟩ := hrel
      by_cases hlt : k < l.length
      · obtain ⟨x, hx⟩ : ∃ x, x = partF (absI T) l d k := ⟨_, rfl⟩
        have hx0 : 0 ≤ x := by rw [hx]; exact (HPB.out d k hlt).1
        have hx1 : x ≤ 9223372036854775807 := by rw [hx]; have := (HPB.out d k hlt).2; omega
        have hc : wr.cell? ⟨w.heap.size, k, none⟩ = some (.int .i64 x) := by
          have := hinv.par k hlt; rw [Nat.zero_add, if_neg (by omega), ← hx] at this; exact this
        have hf : wr.frozen? ⟨w.heap.size, k, none⟩ = false := by have := hinv.frz k hlt; rw [Nat.zero_add] at this; exact this
        have HInv := Lib.hid hinv
        have HX := Lib.hid hx
        clear hinv hx HT0
        go_wp2
        go_roundw
        case rel =>
          refine ⟨k + 1, by omega, by go_num, ?_⟩
          have := HInv.out.step hlt
          rw [← HX.out] at this
          exact this
        case measure => simp [intOf]; omega
      · obtain rfl : l.length = k := by omega
        have HInv := Lib.hid hinv
        clear hinv HT0
        go_wp2
        go_ret2
        refine ⟨rfl, d, HO.out, HInv.out.below, HInv.out.size, fun t ht => ?_⟩
        rw [HInv.out.par t ht, if_pos ht, decide_eq_true hneg]; rfl
  · go_enter Try.func5, Try.ntmps5
    go_wp2_with (first | (go_at_call 11; refine HWg.out.mono ?_; rintro e w' ⟨rfl, rfl⟩) | (go_at_call 13; refine (size_any _ _ (by omega) (by omega)).mono ?_; rintro e w' ⟨rfl, rfl⟩) | (go_at_call 12; refine HSh.out.mono ?_; rintro e w' ⟨rfl, d, h1, h2, h3, h4, h5, h6⟩))
    go_ret2
    refine ⟨rfl, d, ⟨h1, h2⟩, h3, h4, fun t ht => ?_⟩
    rw [decide_eq_false (show ¬ T < 0 by omega)]; exact h5 t ht

end Go.Proofs.Ytbjjogbnndmmmaa

/-
  chattellaw01.AmountSplits's walk.
-/
import Derived.Test.YtbjjogbnndmmmaaRSplB
namespace Go.Proofs.Ytbjjogbnndmmmaa
open Go.RowKit Go.Sort
set_option linter.unusedVariables false

theorem splits_long (T : Int) (a : Option Addr) (len cap : Nat) (w : World) (hl : 70 < len) (hm : len ≤ 9223372036854775807) :
    Calls Try.prog 3 #[.int .i64 T, .slice a len cap] w fun e w' => e = .returned (.bool true) ∧ Below w.heap.size w w' := by
  go_enter Try.func3, Try.ntmps3
  go_wp2_with (go_at_call 4; refine (awake_any _).mono ?_; rintro e w' ⟨rfl, hb⟩)
  go_ret
  exact ⟨rfl, ‹Below _ _ _›⟩

/-- None, or too many weights. -/
theorem splits_arg (T : Int) (a : Option Addr) (len cap : Nat) (w : World) (hl : len < 1 ∨ 64 < len) (hm : len ≤ 70)
    (h : Calls Try.prog 5 #[.int .i64 T, .slice a len cap] w fun e w' => e = .returned (.tuple #[.slice none 0 0, .int .i64 1]) ∧ w = w') :
    Calls Try.prog 3 #[.int .i64 T, .slice a len cap] w fun e w' => e = .returned (.bool true) ∧ Below w.heap.size w w' := by
  have H := Lib.hid h
  clear h
  by_cases c : len < 1
  · clear hl
    go_enter Try.func3, Try.ntmps3
    go_wp2_with (first | (go_at_call 5; refine H.out.mono ?_; rintro e w' ⟨rfl, rfl⟩) | (go_at_call 4; refine (awake_any _).mono ?_; rintro e w' ⟨rfl, hb⟩))
    go_ret
    exact ⟨rfl, ‹Below _ _ _›⟩
  · have hl2 : 64 < len := by omega
    clear hl
    go_enter Try.func3, Try.ntmps3
    go_wp2_with (first | (go_at_call 5; refine H.out.mono ?_; rintro e w' ⟨rfl, rfl⟩) | (go_at_call 4; refine (awake_any _).mono ?_; rintro e w' ⟨rfl, hb⟩))
    go_ret
    exact ⟨rfl, ‹Below _ _ _›⟩

/-- A weight below nought. -/
theorem splits_neg (T : Int) (l : List Int) (b o cap : Nat) (w : World) (hr : Row w b o l) (h0 : 0 < l.length) (h64 : l.length ≤ 64) (hneg : ∃ t, t < l.length ∧ l.getD t 0 < 0)
    (h : Calls Try.prog 5 #[.int .i64 T, .slice (some ⟨b, o, none⟩) l.length cap] w fun e w' => e = .returned (.tuple #[.slice none 0 0, .int .i64 10]) ∧ w = w') :
    Calls Try.prog 3 #[.int .i64 T, .slice (some ⟨b, o, none⟩) l.length cap] w fun e w' => e = .returned (.bool true) ∧ Below w.heap.size w w' := by
  have H := Lib.hid h
  have HR := Lib.hid hr
  have HNeg := Lib.hid hneg
  clear h hr hneg
  have hn1 : ¬ l.length < 1 := by omega
  go_enter Try.func3, Try.ntmps3
  go_wp2_with (go_at_call 5; refine H.out.mono ?_; rintro e w' ⟨rfl, rfl⟩)
  go_loop [7] (fun vi => ∃ i : Nat, i ≤ l.length ∧ vi = .int .i64 i ∧ ∀ t, t < i → ¬ l.getD t 0 < 0) (fun vi => l.length - (intOf vi).toNat)
  case atStart => exact ⟨0, Nat.zero_le _, rfl, fun t ht => by omega⟩
  case round =>
    obtain ⟨i, hi, rfl, hno⟩ := hrel
    by_cases hlt : i < l.length
    · obtain ⟨x, hx⟩ : ∃ x, x = l.getD i 0 := ⟨_, rfl⟩
      have hc : w.cell? ⟨b, o + i, none⟩ = some (.int .i64 x) := by rw [hx]; exact HR.out i hlt
      have i1 : (i : Int) < (l.length : Int) := by omega
      by_cases hx0 : x < 0
      · clear hx hno
        go_wp2_with (go_at_call 4; refine (awake_any _).mono ?_; rintro e w' ⟨rfl, hb⟩)
        go_ret
        exact ⟨rfl, ‹Below _ _ _›⟩
      · have HN := Lib.hid hno
        have HX := Lib.hid hx
        have HX0 := Lib.hid hx0
        have hd : decide (x < 0) = false := decide_eq_false hx0
        clear hno hx hx0
        go_wp2_with fail
        go_round
        case rel =>
          refine ⟨i + 1, by omega, by go_num, fun t ht => ?_⟩
          by_cases e : t = i
          · subst e; rw [← HX.out]; exact HX0.out
          · exact HN.out t (by omega)
        case measure => simp [intOf]; omega
    · exfalso
      obtain ⟨t, h1, h2⟩ := HNeg.out
      exact hno t (by omega) h2

/-- What Int answers. -/
def IntAns (z n : Int) (is : Bool) : Prop := (FitsZ z → n = z ∧ is = true) ∧ (¬ FitsZ z → n = 0 ∧ is = false)
theorem rint_ans (z : Int) (v : Value) (w : World) (h : BigV w v z) (hz : z.natAbs < 2 ^ 1000) :
    ∃ n is, IntAns z n is ∧ Calls Try.prog 6 #[v] w fun e w' => e = .returned (.tuple #[.int .i64 n, .bool is]) ∧ Below w.heap.size w w' := by
  by_cases hf : FitsZ z
  · exact ⟨z, true, ⟨fun _ => ⟨rfl, rfl⟩, fun h => absurd hf h⟩, (rint_any z v w h hz).mono fun _ _ ⟨h1, _, h3⟩ => ⟨h1 hf, h3⟩⟩
  · exact ⟨0, false, ⟨fun h => absurd h hf, fun _ => ⟨rfl, rfl⟩⟩, (rint_any z v w h hz).mono fun _ _ ⟨_, h2, h3⟩ => ⟨h2 hf, h3⟩⟩

/-- Weights that may be, and a sum or a total that may not. -/
theorem splits_bad (T : Int) (l : List Int) (b o cap : Nat) (er : Int) (w : World) (hb : b < w.heap.size) (hr : Row w b o l) (hi : InI l) (h0 : 0 < l.length) (h64 : l.length ≤ 64) (hpos : ∀ t, t < l.length → 0 ≤ l.getD t 0) (hT : -9223372036854775808 ≤ T) (hT1 : T ≤ 9223372036854775807)
    (hk : (¬ FitsZ (sumL l) ∧ er = 11) ∨ (FitsZ (sumL l) ∧ T = -9223372036854775808 ∧ er = 11) ∨ (sumL l = 0 ∧ T ≠ -9223372036854775808 ∧ er = 12))
    (h : Calls Try.prog 5 #[.int .i64 T, .slice (some ⟨b, o, none⟩) l.length cap] w fun e w' => e = .returned (.tuple #[.slice none 0 0, .int .i64 er]) ∧ w = w') :
    Calls Try.prog 3 #[.int .i64 T, .slice (some ⟨b, o, none⟩) l.length cap] w fun e w' => e = .returned (.bool true) ∧ Below w.heap.size w w' := by
  have H := Lib.hid h
  have HR := Lib.hid hr
  have HPos := Lib.hid hpos
  have HSum := Lib.hid (rsum_any l (some ⟨b, o, none⟩) cap w (Or.inr ⟨b, o, rfl, hb, hr⟩) hi (by omega))
  have HAns := Lib.hid (fun v w (hv : BigV w v (sumL l)) => rint_ans _ v w hv (sum_lim hi (by omega)))
  have HK := Lib.hid hk
  clear h hr hpos hi hk
  have hn1 : ¬ l.length < 1 := by omega
  go_enter Try.func3, Try.ntmps3
  go_wp2_with (go_at_call 5; refine H.out.mono ?_; rintro e w' ⟨rfl, rfl⟩)
  go_loop [7] (fun vi => ∃ i : Nat, i ≤ l.length ∧ vi = .int .i64 i) (fun vi => l.length - (intOf vi).toNat)
  case atStart => exact ⟨0, Nat.zero_le _, rfl⟩
  case round =>
    obtain ⟨i, hi, rfl⟩ := hrel
    by_cases hlt : i < l.length
    · obtain ⟨x, hx⟩ : ∃ x, x = l.getD i 0 := ⟨_, rfl⟩
      have hc : w.cell? ⟨b, o + i, none⟩ = some (.int .i64 x) := by rw [hx]; exact HR.out i hlt
      have i1 : (i : Int) < (l.length : Int) := by omega
      have hx0 : 0 ≤ x := by rw [hx]; exact HPos.out i hlt
      clear hx
      go_wp2_with fail
      go_round
      case rel => exact ⟨i + 1, by omega, by go_num⟩
      case measure => simp [intOf]; omega
    · have hin : ¬ (i : Int) < (l.length : Int) := by omega
      go_wp2_with fail
      refine HSum.out.mono ?_
      rintro e w1 ⟨⟨v, rfl, hv⟩, hb1⟩
      obtain ⟨n, is, hans, hint⟩ := HAns.out _ _ hv
      have HInt := Lib.hid hint
      have HB1 := Lib.hid hb1
      obtain ⟨hA, hB⟩ := hans
      have HA := Lib.hid hA
      have HB := Lib.hid hB
      clear hv hb1 hint hA hB
      rcases HK.out with ⟨k1, rfl⟩ | ⟨k1, rfl, rfl⟩ | ⟨k1, k2, rfl⟩
      · obtain ⟨rfl, rfl⟩ := HB.out k1
        clear k1
        go_wp2_with fail
        refine HInt.out.mono ?_
        rintro e w2 ⟨rfl, hb2⟩
        have HB2 := Lib.hid hb2
        clear hb2
        go_wp2_with (go_at_call 4; refine (awake_any _).mono ?_; rintro e w' ⟨rfl, hb⟩)
        go_ret
        exact ⟨rfl, HB1.out.trans ((HB2.out.trans ((‹Below _ _ _›).mono HB2.out.size)).mono HB1.out.size)⟩
      · obtain ⟨e1, rfl⟩ := HA.out k1
        clear k1 e1
        go_wp2_with fail
        refine HInt.out.mono ?_
        rintro e w2 ⟨rfl, hb2⟩
        have HB2 := Lib.hid hb2
        clear hb2
        go_wp2_with (go_at_call 4; refine (awake_any _).mono ?_; rintro e w' ⟨rfl, hb⟩)
        go_ret
        exact ⟨rfl, HB1.out.trans ((HB2.out.trans ((‹Below _ _ _›).mono HB2.out.size)).mono HB1.out.size)⟩
      · obtain ⟨e1, rfl⟩ := HA.out (by rw [k1]; exact ⟨by decide, by decide⟩)
        rw [k1] at e1
        subst e1
        have hT2 : -9223372036854775807 ≤ T := by omega
        clear k1 k2
        go_wp2_with fail
        refine HInt.out.mono ?_
        rintro e w2 ⟨rfl, hb2⟩
        have HB2 := Lib.hid hb2
        clear hb2
        go_wp2_with (go_at_call 4; refine (awake_any _).mono ?_; rintro e w' ⟨rfl, hb⟩)
        go_ret
        exact ⟨rfl, HB1.out.trans ((HB2.out.trans ((‹Below _ _ _›).mono HB2.out.size)).mono HB1.out.size)⟩

end Go.Proofs.Ytbjjogbnndmmmaa

/-
  amount.Sum, slices.Min and amount.weigh: what they tell of a slice of numbers.
-/
import Derived.Test.YtadjhofomabbmaaDoorBits
import Derived.CellFam
namespace Go.Proofs.YtadjhofomabbmaaDoor
open Go.RowKit
set_option linter.unusedVariables false

/-- A slice of numbers lies in memory. -/
def Row (w : World) (b o : Nat) (l : List Int) : Prop := ∀ t, t < l.length → w.cell? ⟨b, o + t, none⟩ = some (.int .i64 (l.getD t 0))
def InI (l : List Int) : Prop := ∀ t, -9223372036854775808 ≤ l.getD t 0 ∧ l.getD t 0 ≤ 9223372036854775807
/-- The sum of the first numbers. -/
def sumK (l : List Int) : Nat → Int
  | 0 => 0
  | k + 1 => sumK l k + l.getD k 0
def sumL (l : List Int) : Int := sumK l l.length

theorem sumK_bd {l : List Int} (h : InI l) : ∀ k : Nat, -9223372036854775808 * (k : Int) ≤ sumK l k ∧ sumK l k ≤ 9223372036854775807 * (k : Int)
  | 0 => by simp [sumK]
  | k + 1 => by have := sumK_bd h k; have := h k; simp only [sumK]; omega

def loW (s : Int) : Int := s % 18446744073709551616
def hiW (s : Int) : Int := s / 18446744073709551616 % 18446744073709551616
theorem loW_bd (s : Int) : 0 ≤ loW s ∧ loW s ≤ 18446744073709551615 := by unfold loW; omega
theorem hiW_bd (s : Int) : 0 ≤ hiW s ∧ hiW s ≤ 18446744073709551615 := by unfold hiW; omega

theorem num_eqS {k : IntKind} {a b : Int} (h : a = b) : Value.int k a = Value.int k b := by rw [h]
theorem hi_neg (S x c : Int) (hx : x < 0) (hx0 : -9223372036854775808 ≤ x) (hc : c = (loW S + (x + 18446744073709551616)) / 18446744073709551616) :
    IntKind.u64.wrap (hiW S + IntKind.u64.wrap (18446744073709551615 + c)) = hiW (S + x) := by
  rw [IntKind.wrap_u64, IntKind.wrap_u64]; unfold hiW; unfold loW at hc; omega
theorem hi_pos (S x c : Int) (hx : 0 ≤ x) (hx1 : x ≤ 9223372036854775807) (hc : c = (loW S + x) / 18446744073709551616) :
    IntKind.u64.wrap (hiW S + c) = hiW (S + x) := by
  rw [IntKind.wrap_u64]; unfold hiW; unfold loW at hc; omega

set_option maxHeartbeats 1000000 in
theorem sum_row (l : List Int) (b o cap : Nat) (w : World) (hr : Row w b o l) (hi : InI l) (hn : l.length ≤ 1152921504606846976) :
    Calls Tryd.prog 39 #[.slice (some ⟨b, o, none⟩) l.length cap] w fun e w' => e = .returned (.tuple #[.int .i64 (fitN (sumL l)), .int .i64 (fitE (sumL l))]) ∧ w = w' := by
  have HI : Hid _ := hi
  obtain ⟨n, hnl⟩ : ∃ n, n = l.length := ⟨_, rfl⟩
  have HN := Lib.hid hnl
  rw [← hnl] at hn ⊢
  have hcw : ∀ t, t < n → w.cell? ⟨b, o + t, none⟩ = some (.int .i64 (l.getD t 0)) := fun t ht => hr t (by omega)
  clear hr hi hnl
  go_enter Tryd.func39, Tryd.ntmps39
  go_wp2
  go_loop [4, 5, 6, 8, 12] (fun vh vl vc vn vi => ∃ k : Nat, k ≤ n ∧ vi = .int .i64 k ∧ vh = .int .u64 (hiW (sumK l k)) ∧ vl = .int .u64 (loW (sumK l k))) (fun _ _ _ _ vi => n - (intOf vi).toNat)
  case atStart => exact ⟨0, Nat.zero_le _, rfl, rfl, rfl⟩
  case round =>
    obtain ⟨k, hk, rfl, rfl, rfl⟩ := hrel
    by_cases hlt : k < n
    · obtain ⟨x, hx⟩ : ∃ x, x = l.getD k 0 := ⟨_, rfl⟩
      have hcx : w.cell? ⟨b, o + k, none⟩ = some (.int .i64 x) := by rw [hx]; exact hcw k hlt
      have hx0 : -9223372036854775808 ≤ x := by rw [hx]; exact (HI.out k).1
      have hx1 : x ≤ 9223372036854775807 := by rw [hx]; exact (HI.out k).2
      obtain ⟨S, hS⟩ : ∃ S, S = sumK l k := ⟨_, rfl⟩
      obtain ⟨hl0, hl1⟩ := loW_bd S
      obtain ⟨hh0, hh1⟩ := hiW_bd S
      have HX := Lib.hid hx
      have HS := Lib.hid hS
      rw [← hS]
      clear hcw hx hS
      by_cases hneg : x < 0
      · obtain ⟨c, hc⟩ : ∃ c, c = (loW S + (x + 18446744073709551616)) / 18446744073709551616 := ⟨_, rfl⟩
        have hxw : IntKind.u64.wrap x = x + 18446744073709551616 := by rw [IntKind.wrap_u64]; omega
        have hadd : ∀ w, (callFunc 53 #[.int .u64 (loW S), .int .u64 (x + 18446744073709551616), .int .u64 0]).run Tryd.prog w = .ok (.value (.tuple #[.int .u64 (loW (S + x)), .int .u64 c])) w := by
          intro w; rw [add64_run _ _ hl0 (by omega), hc]
          rw [show (loW S + (x + 18446744073709551616)) % 18446744073709551616 = loW (S + x) from by unfold loW; omega]
        have hc0 : 0 ≤ c := by omega
        have hc1 : c ≤ 1 := by omega
        have HCy := Lib.hid hc
        clear hc
        have hsb := signBits_any x w
        rw [if_pos hneg] at hsb
        have HSB := Lib.hid hsb
        clear hsb
        go_wp2_with (go_at_call 54; refine HSB.out.mono ?_; rintro e w' ⟨rfl, rfl⟩)
        go_round
        case rel => exact ⟨k + 1, by omega, by go_num, num_eqS (by rw [sumK, ← HS.out, ← HX.out]; exact hi_neg S x c hneg hx0 HCy.out), num_eqS (by rw [sumK, ← HS.out, ← HX.out])⟩
        case measure => simp [intOf]; omega
      · obtain ⟨c, hc⟩ : ∃ c, c = (loW S + x) / 18446744073709551616 := ⟨_, rfl⟩
        have hadd : ∀ w, (callFunc 53 #[.int .u64 (loW S), .int .u64 x, .int .u64 0]).run Tryd.prog w = .ok (.value (.tuple #[.int .u64 (loW (S + x)), .int .u64 c])) w := by
          intro w; rw [add64_run _ _ hl0 (by omega), hc]
          rw [show (loW S + x) % 18446744073709551616 = loW (S + x) from by unfold loW; omega]
        have hc0 : 0 ≤ c := by omega
        have hc1 : c ≤ 1 := by omega
        have HCy := Lib.hid hc
        clear hc
        have hsb := signBits_any x w
        rw [if_neg hneg] at hsb
        have HSB := Lib.hid hsb
        clear hsb
        go_wp2_with (go_at_call 54; refine HSB.out.mono ?_; rintro e w' ⟨rfl, rfl⟩)
        go_round
        case rel => exact ⟨k + 1, by omega, by go_num, num_eqS (by rw [sumK, ← HS.out, ← HX.out]; exact hi_pos S x c (by omega) hx1 HCy.out), num_eqS (by rw [sumK, ← HS.out, ← HX.out])⟩
        case measure => simp [intOf]; omega
    · obtain rfl : k = n := by omega
      obtain ⟨S, hS⟩ : ∃ S, S = sumK l k := ⟨_, rfl⟩
      have hbd := sumK_bd HI.out k
      rw [← hS] at hbd ⊢
      have hb0 : -10633823966279326983230456482242756608 ≤ S := by omega
      have hb1 : S ≤ 10633823966279326983230456482242756608 := by omega
      have HT : Hid (sumL l = S) := Lib.hid (by unfold sumL; rw [← HN.out, hS])
      obtain ⟨hl0, hl1⟩ := loW_bd S
      obtain ⟨hh0, hh1⟩ := hiW_bd S
      have HB0 := Lib.hid hb0
      have HB1 := Lib.hid hb1
      clear hbd hS hcw hb0 hb1
      by_cases hin : inR S = true
      · have hr := (inR_iff S).1 hin
        have HIn := Lib.hid hin
        clear hin
        by_cases hp : 0 ≤ S
        · have hlo : loW S = S := by unfold loW; omega
          have hhi : hiW S = 0 := by unfold hiW; omega
          have hsb := signBits_any S w
          rw [if_neg (by omega)] at hsb
          have HSB := Lib.hid hsb
          clear hsb
          go_wp2_with (go_at_call 54; refine HSB.out.mono ?_; rintro e w' ⟨rfl, rfl⟩)
          go_ret2
          exact ⟨ret_two (by rw [HT.out, fitN_in HIn.out]) (by rw [HT.out, fitE_in HIn.out]), rfl⟩
        · have hlo : wrap64 (loW S) = S := by unfold wrap64 loW; omega
          have hhi : hiW S = 18446744073709551615 := by unfold hiW; omega
          have hsb := signBits_any S w
          rw [if_pos (by omega)] at hsb
          have HSB := Lib.hid hsb
          clear hsb
          go_wp2_with (go_at_call 54; refine HSB.out.mono ?_; rintro e w' ⟨rfl, rfl⟩)
          go_ret2
          exact ⟨ret_two (by rw [HT.out, fitN_in HIn.out]) (by rw [HT.out, fitE_in HIn.out]), rfl⟩
      · have HOut : Hid (inR S = false) := Lib.hid (by simpa using hin)
        have hr : ¬ (-9223372036854775808 ≤ S ∧ S ≤ 9223372036854775807) := fun g => hin ((inR_iff S).2 g)
        clear hin
        by_cases hp : loW S ≤ 9223372036854775807
        · have hhi : (hiW S != 0) = true := by
            have := HB0.out; have := HB1.out
            simp only [bne_iff_ne, ne_eq]; unfold hiW loW at *; omega
          have hsb := signBits_any (loW S) w
          rw [if_neg (by omega)] at hsb
          have HSB := Lib.hid hsb
          clear hsb hr
          go_wp2_with (go_at_call 54; refine HSB.out.mono ?_; rintro e w' ⟨rfl, rfl⟩)
          go_ret2
          exact ⟨ret_two (by rw [HT.out, fitN_out HOut.out]) (by rw [HT.out, fitE_out HOut.out]), rfl⟩
        · obtain ⟨v, hv⟩ : ∃ v, wrap64 (loW S) = v := ⟨_, rfl⟩
          have hhi : (hiW S != 18446744073709551615) = true := by
            have := HB0.out; have := HB1.out
            simp only [bne_iff_ne, ne_eq]; unfold hiW loW at *; omega
          have hsb := signBits_any v w
          rw [if_pos (by unfold wrap64 at hv; omega)] at hsb
          have HSB := Lib.hid hsb
          clear hsb hr
          go_wp2_with (go_at_call 54; refine HSB.out.mono ?_; rintro e w' ⟨rfl, rfl⟩)
          go_ret2
          exact ⟨ret_two (by rw [HT.out, fitN_out HOut.out]) (by rw [HT.out, fitE_out HOut.out]), rfl⟩

/-- No number at all. -/
theorem sum_nil (a : Option Addr) (cap : Nat) (w : World) :
    Calls Tryd.prog 39 #[.slice a (0 : Nat) cap] w fun e w' => e = .returned (.tuple #[.int .i64 0, .int .i64 0]) ∧ w = w' := by
  have hsb := signBits_any 0 w
  rw [if_neg (by omega)] at hsb
  have HSB := Lib.hid hsb
  clear hsb
  go_enter Tryd.func39, Tryd.ntmps39
  go_wp2
  refine wp_loop_rounds 1 ?_
  rw [rounds_succ]
  go_wp2_with (go_at_call 54; refine HSB.out.mono ?_; rintro e w' ⟨rfl, rfl⟩)
  go_ret2
  exact ⟨rfl, rfl⟩

end Go.Proofs.YtadjhofomabbmaaDoor

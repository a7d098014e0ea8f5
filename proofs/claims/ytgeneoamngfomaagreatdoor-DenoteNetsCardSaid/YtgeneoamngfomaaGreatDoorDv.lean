/-
  The contract of math/bits.Div64: quotient and rest of 128 bits by 64 bits, where the quotient fits.
-/
import Derived.Test.YtgeneoamngfomaaGreatDoorLo
import Derived.Test.YtgeneoamngfomaaGreatDoorDivArith
import Derived.RegionTactic
import Derived.Deep.QuietTactic
import Derived.BigQuiet
import Derived.Deep.CutBlock
import Derived.Deep.CutRange
import Derived.Deep.Draws
namespace Go.Proofs.YtgeneoamngfomaaGreatDoor
open Go.RowKit

set_option maxHeartbeats 1000000 in
theorem div64_small (lo y : Nat) (hy : 0 < y) (hy1 : y < 18446744073709551616) (hl : lo < 18446744073709551616) (w : World) :
    Calls Tryz.prog 158 #[.int .u64 (0 : Nat), .int .u64 lo, .int .u64 y] w fun e w' => e = .returned (.tuple #[.int .u64 ((lo / y : Nat) : Int), .int .u64 ((lo % y : Nat) : Int)]) ∧ w' = w.drew := by
  have hle : lo / y ≤ lo := Nat.div_le_self _ _
  have HQ : Hid (IntKind.u64.wrap ((lo : Int) / (y : Int)) = ((lo / y : Nat) : Int)) := Lib.hid (by
    rw [show (lo : Int) / (y : Int) = ((lo / y : Nat) : Int) from (Int.natCast_ediv lo y).symm]; exact BitsA.stays _ (by omega))
  go_enter Tryz.func158, Tryz.ntmps158
  go_wp2
  go_region
  go_wp2
  go_ret2
  exact ⟨ret_two HQ.out (Int.natCast_emod lo y).symm, rfl⟩

namespace DivA
/-- What stands in the registers behind the shift. -/
theorem setup (hi lo y s Y : Nat) (hs : s ≤ 63) (hY : y * 2 ^ s = Y) (hlt : hi < y) (hl : lo < 18446744073709551616) (hYt : Y < 18446744073709551616) :
    ∃ U L : Nat, U < Y ∧ L < 18446744073709551616 ∧ U * 18446744073709551616 + L = (hi * 18446744073709551616 + lo) * 2 ^ s ∧
      bits .or .u64 (IntKind.u64.wrap ((hi : Int) * 2 ^ s)) ((lo : Int) / 2 ^ (64 - s)) = (U : Int) ∧ IntKind.u64.wrap ((lo : Int) * 2 ^ s) = (L : Int) := by
  have p64 : 2 ^ (64 - s) * 2 ^ s = 18446744073709551616 := by rw [← Nat.pow_add, show 64 - s + s = 64 from by omega]
  have ps : 0 < 2 ^ s := Nat.two_pow_pos s
  have pt : 0 < 2 ^ (64 - s) := Nat.two_pow_pos _
  have hdiv : lo * 2 ^ s / 18446744073709551616 = lo / 2 ^ (64 - s) := by rw [← p64]; exact Nat.mul_div_mul_right _ _ ps
  have hsmall : lo / 2 ^ (64 - s) < 2 ^ s := by rw [Nat.div_lt_iff_lt_mul pt, Nat.mul_comm, p64]; exact hl
  have hHi : (hi + 1) * 2 ^ s ≤ Y := by rw [← hY]; exact Nat.mul_le_mul_right _ hlt
  rw [Nat.add_mul, Nat.one_mul] at hHi
  have hdm := Nat.div_add_mod (lo * 2 ^ s) 18446744073709551616
  rw [hdiv] at hdm
  refine ⟨hi * 2 ^ s + lo / 2 ^ (64 - s), lo * 2 ^ s % 18446744073709551616, by omega, Nat.mod_lt _ (by omega), ?_, ?_, ?_⟩
  · rw [Nat.add_mul, Nat.add_mul, Nat.mul_right_comm hi 18446744073709551616 (2 ^ s)]
    omega
  · have c1 : ((hi : Int) * 2 ^ s) = ((hi * 2 ^ s : Nat) : Int) := by rw [Int.natCast_mul, Int.natCast_pow]; rfl
    have c2 : ((lo : Int) / 2 ^ (64 - s)) = ((lo / 2 ^ (64 - s) : Nat) : Int) := by rw [Int.natCast_ediv, Int.natCast_pow]; rfl
    rw [c1, c2, BitsA.stays _ (by omega), bits_or_u64_nat _ _ (by omega) (by omega)]
    have := Nat.shiftLeft_add_eq_or_of_lt hsmall hi
    rw [Nat.shiftLeft_eq] at this
    rw [← this]
  · have c1 : ((lo : Int) * 2 ^ s) = ((lo * 2 ^ s : Nat) : Int) := by rw [Int.natCast_mul, Int.natCast_pow]; rfl
    rw [c1, BitsA.rounds]

theorem guess_int (U y1 : Nat) (h : U < 18446744073709551616) : IntKind.u64.wrap ((U : Int) / (y1 : Int)) = ((U / y1 : Nat) : Int) := by
  have : U / y1 ≤ U := Nat.div_le_self _ _
  rw [show (U : Int) / (y1 : Int) = ((U / y1 : Nat) : Int) from (Int.natCast_ediv U y1).symm]; exact BitsA.stays _ (by omega)
theorem prod_int (a b : Nat) (h : a * b < 18446744073709551616) : IntKind.u64.wrap ((a : Int) * (b : Int)) = ((a * b : Nat) : Int) := by
  rw [BitsA.prodN]; exact BitsA.stays _ h

/-- The rest of a digit, as the registers reckon it. -/
theorem rest_int (U d Y : Nat) (hY : 0 < Y) (hYt : Y < 18446744073709551616) :
    IntKind.u64.wrap (IntKind.u64.wrap (IntKind.u64.wrap ((U : Int) * 4294967296) + (d : Int)) - IntKind.u64.wrap ((((U * 4294967296 + d) / Y : Nat) : Int) * (Y : Int))) = (((U * 4294967296 + d) % Y : Nat) : Int) := by
  have h := Nat.div_add_mod (U * 4294967296 + d) Y
  have hm := Nat.mod_lt (U * 4294967296 + d) hY
  have e : ((((U * 4294967296 + d) / Y : Nat) : Int) * (Y : Int)) = ((Y * ((U * 4294967296 + d) / Y) : Nat) : Int) := by rw [Int.natCast_mul, Int.mul_comm]
  rw [e]
  generalize Y * ((U * 4294967296 + d) / Y) = p at *
  generalize (U * 4294967296 + d) % Y = r at *
  rw [IntKind.wrap_u64, IntKind.wrap_u64, IntKind.wrap_u64, IntKind.wrap_u64]
  omega
end DivA

end Go.Proofs.YtgeneoamngfomaaGreatDoor

namespace Go.Proofs.YtgeneoamngfomaaGreatDoor
open Go.RowKit
set_option linter.unusedVariables false

theorem shr_nat (a s : Nat) : ((a / 2 ^ s : Nat) : Int) = (a : Int) / 2 ^ s := by rw [Int.natCast_ediv, Int.natCast_pow]; rfl
theorem num_eq {k : IntKind} {a b : Int} (h : a = b) : Value.int k a = Value.int k b := by rw [h]

/-- A guess of a digit, on its way down. -/
def Guess (U y1 Q q r : Nat) : Prop := q * y1 + r = U ∧ Q ≤ q ∧ q ≤ 4294967297 ∧ r < 4294967296

def GuessI (U y1 Q : Nat) (q r : Int) : Prop := ∃ qn rn : Nat, q = qn ∧ r = rn ∧ Guess U y1 Q qn rn

theorem Guess.down {U Y y1 y0 d Q q r : Nat} (h : Guess U y1 Q q r) (HY : Hid (Y = y1 * 4294967296 + y0)) (hUY : U < Y) (hd : d < 4294967296) (HQ : Hid (Q = (U * 4294967296 + d) / Y))
    (ht : 4294967296 ≤ q ∨ 4294967296 * r + d < q * y0) : 0 < q ∧ Q ≤ q - 1 ∧ (q - 1) * y1 + (r + y1) = U := by
  have := DivA.guess_down q r U d y1 y0 4294967296 h.1 (by rw [← HY.out]; exact hUY) hd (by rw [← HY.out, ← HQ.out]; exact h.2.1) ht
  rw [← HY.out, ← HQ.out] at this
  exact this

theorem Guess.next {U Y y1 y0 d Q q r : Nat} (h : Guess U y1 Q q r) (HY : Hid (Y = y1 * 4294967296 + y0)) (hUY : U < Y) (hd : d < 4294967296) (HQ : Hid (Q = (U * 4294967296 + d) / Y))
    (ht : 4294967296 ≤ q ∨ 4294967296 * r + d < q * y0) (hr : r + y1 < 4294967296) : Guess U y1 Q (q - 1) (r + y1) := by
  obtain ⟨a, b, c⟩ := h.down HY hUY hd HQ ht
  have := h.2.2.1
  exact ⟨c, b, by omega, hr⟩

theorem Guess.last {U Y y1 y0 d Q q r : Nat} (h : Guess U y1 Q q r) (HY : Hid (Y = y1 * 4294967296 + y0)) (hUY : U < Y) (hd : d < 4294967296) (HQ : Hid (Q = (U * 4294967296 + d) / Y))
    (b3 : y0 < 4294967296) (ht : 4294967296 ≤ q ∨ 4294967296 * r + d < q * y0) (hr : 4294967296 ≤ r + y1) : q - 1 = Q := by
  obtain ⟨a, b, c⟩ := h.down HY hUY hd HQ ht
  have := h.2.2.1
  have hp : (q - 1) * y0 ≤ 4294967296 * 4294967295 := Nat.mul_le_mul (by omega) (by omega)
  have e := DivA.guess_done (q - 1) (r + y1) U d y1 y0 4294967296 c (by rw [← HY.out]; omega) (by rw [← HY.out, ← HQ.out]; exact b) (by omega)
  rw [← HY.out, ← HQ.out] at e
  exact e

theorem Guess.done {U Y y1 y0 d Q q r : Nat} (h : Guess U y1 Q q r) (HY : Hid (Y = y1 * 4294967296 + y0)) (hUY : U < Y) (HQ : Hid (Q = (U * 4294967296 + d) / Y))
    (ht : q * y0 ≤ 4294967296 * r + d) : q = Q := by
  have e := DivA.guess_done q r U d y1 y0 4294967296 h.1 (by rw [← HY.out]; omega) (by rw [← HY.out, ← HQ.out]; exact h.2.1) ht
  rw [← HY.out, ← HQ.out] at e
  exact e

set_option maxHeartbeats 2000000 in
set_option maxRecDepth 100000 in
theorem div64_core (hi lo y s : Nat) (h0 : 0 < hi) (hy : hi < y) (hy1 : y < 18446744073709551616) (hl : lo < 18446744073709551616) (w : World)
    (hs : s ≤ 63) (Y y1 y0 U L d1 d0 Q1 R1 Q0 R0 : Nat) (hY : IntKind.u64.wrap ((y : Int) * 2 ^ s) = (Y : Int)) (hd1 : (Y : Int) / 4294967296 = (y1 : Int)) (hd0 : bits .and .u64 (Y : Int) 4294967295 = (y0 : Int))
    (hU : bits .or .u64 (IntKind.u64.wrap ((hi : Int) * 2 ^ s)) ((lo : Int) / 2 ^ (64 - s)) = (U : Int)) (hL : IntKind.u64.wrap ((lo : Int) * 2 ^ s) = (L : Int))
    (hL1 : (L : Int) / 4294967296 = (d1 : Int)) (hL0 : bits .and .u64 (L : Int) 4294967295 = (d0 : Int))
    (b1 : 2147483648 ≤ y1) (b2 : y1 < 4294967296) (b3 : y0 < 4294967296) (b4 : d1 < 4294967296) (b5 : d0 < 4294967296) (HY : Hid (Y = y1 * 4294967296 + y0)) (hUY : U < Y) (hYt : Y < 18446744073709551616)
    (HQ1 : Hid (Q1 = (U * 4294967296 + d1) / Y)) (HR1 : Hid (R1 = (U * 4294967296 + d1) % Y)) (HQ0 : Hid (Q0 = (R1 * 4294967296 + d0) / Y)) (HR0 : Hid (R0 = (R1 * 4294967296 + d0) % Y))
    (hc : ∀ w, Calls Tryz.prog 169 #[.int .u64 y] w fun e w' => e = .returned (.int .i64 (s : Nat)) ∧ w = w') :
    Calls Tryz.prog 158 #[.int .u64 hi, .int .u64 lo, .int .u64 y] w fun e w' => e = .returned (.tuple #[.int .u64 ((Q1 * 4294967296 + Q0 : Nat) : Int), .int .u64 ((R0 / 2 ^ s : Nat) : Int)]) ∧ w = w' := by
  have HC := Lib.hid hc
  clear hc
  have hq := DivA.guess_int U y1 (by omega)
  have hqy : U / y1 * y1 ≤ U := Nat.div_mul_le_self _ _
  have hm := DivA.prod_int (U / y1) y1 (by omega)
  have HG : Hid (U / y1 * y1 + (U - U / y1 * y1) = U) := Lib.hid (by omega)
  have hrest : (U : Int) - ((U / y1 * y1 : Nat) : Int) = ((U - U / y1 * y1 : Nat) : Int) := by omega
  have hr0 : U - U / y1 * y1 < 4294967296 := by have := Nat.mod_lt U (show 0 < y1 by omega); have := Nat.div_add_mod' U y1; omega
  have HGE : Hid (Q1 ≤ U / y1) := Lib.hid (by rw [HQ1.out, HY.out]; exact DivA.guess_ge U d1 y1 y0 4294967296 (by omega) b4)
  have hqb := DivA.guess_le U y1 y0 b1 b3 (by rw [← HY.out]; exact hUY)
  generalize hm0 : U / y1 * y1 = m0 at *
  generalize U / y1 = qa at *
  have HGM := Lib.hid hm0
  clear hm0
  generalize U - m0 = ra at *
  have HG0 : Guess U y1 Q1 qa ra := ⟨by have := HG.out; have := HGM.out; omega, HGE.out, hqb, hr0⟩
  clear HG HGE HGM
  go_enter Tryz.func158, Tryz.ntmps158
  go_upto_block 0 with (go_at_call 169; refine (HC.out _).mono ?_; rintro e w' ⟨rfl, rfl⟩)
  go_cut [15, 16] from 67 to 85 (fun a b wx => a = .int .u64 (Q1 : Nat) ∧ w = wx)
  case first =>
    go_wp2_with fail
    go_loop [15, 16] (fun a b => ∃ q r : Int, GuessI U y1 Q1 q r ∧ a = .int .u64 q ∧ b = .int .u64 r) (fun a _ => (intOf a).toNat)
    case atStart => exact ⟨qa, ra, ⟨qa, ra, rfl, rfl, HG0⟩, rfl, rfl⟩
    case round =>
      obtain ⟨q, r, HGI, rfl, rfl⟩ := hrel
      obtain ⟨qn, rn, hqn, hrn, HGu⟩ := HGI
      have gq : qn ≤ 4294967297 := HGu.2.2.1
      have gr : rn < 4294967296 := HGu.2.2.2
      have pb := DivA.guess_prod qn y0 gq (by omega)
      have pw := DivA.prod_int qn y0 (by omega)
      obtain ⟨pn, hp⟩ : ∃ p, qn * y0 = p := ⟨_, rfl⟩
      have HP := Lib.hid hp
      rw [hp] at pb pw
      obtain ⟨p, hpn⟩ : ∃ p : Int, p = pn := ⟨_, rfl⟩
      rw [← hqn, ← hpn] at pw
      have k1 : 0 ≤ q := by omega
      have k2 : 0 ≤ r := by omega
      have k3 : q ≤ 4294967297 := by omega
      have k4 : r < 4294967296 := by omega
      have k5 : 0 ≤ p := by omega
      have k6 : p ≤ 18446744073709551615 := by omega
      have HQn := Lib.hid hqn
      have HRn := Lib.hid hrn
      have HPn := Lib.hid hpn
      clear hqn hrn hpn hp gq gr pb
      by_cases c1 : 4294967296 ≤ q
      · by_cases c2 : 4294967296 ≤ r + y1
        · have HD := Lib.hid (HGu.last HY hUY b4 HQ1 b3 (Or.inl (by have := HQn.out; omega)) (by have := HRn.out; omega))
          go_wp2_with fail
          go_meet
          case rel => exact ⟨num_eq (by have := HD.out; have := HQn.out; omega), rfl⟩
        · have HD := Lib.hid (HGu.next HY hUY b4 HQ1 (Or.inl (by have := HQn.out; omega)) (by have := HRn.out; omega))
          go_wp2_with fail
          go_round
          case rel => exact ⟨_, _, ⟨_, _, by have := HQn.out; omega, by have := HRn.out; omega, HD.out⟩, rfl, rfl⟩
          case measure => simp [intOf]; omega
      · by_cases c3 : 4294967296 * r + d1 < p
        · have ht : 4294967296 * rn + d1 < qn * y0 := by rw [HP.out]; have := HPn.out; have := HRn.out; omega
          have HD0 := Lib.hid (HGu.down HY hUY b4 HQ1 (Or.inr ht)).1
          have k7 : 1 ≤ q := by have := HD0.out; have := HQn.out; omega
          by_cases c2 : 4294967296 ≤ r + y1
          · have HD := Lib.hid (HGu.last HY hUY b4 HQ1 b3 (Or.inr ht) (by have := HRn.out; omega))
            clear ht
            go_wp2_with fail
            go_meet
            case rel => exact ⟨num_eq (by have := HD.out; have := HQn.out; omega), rfl⟩
          · have HD := Lib.hid (HGu.next HY hUY b4 HQ1 (Or.inr ht) (by have := HRn.out; omega))
            clear ht
            go_wp2_with fail
            go_round
            case rel => exact ⟨_, _, ⟨_, _, by have := HQn.out; omega, by have := HRn.out; omega, HD.out⟩, rfl, rfl⟩
            case measure => simp [intOf]; omega
        · have HD := Lib.hid (HGu.done HY hUY HQ1 (by rw [HP.out]; have := HPn.out; have := HRn.out; omega))
          go_wp2_with fail
          go_meet
          case rel => exact ⟨num_eq (by have := HD.out; have := HQn.out; omega), rfl⟩
  case rest =>
    obtain ⟨rfl, rfl⟩ := hcut
    clear hq hqy hm hrest hr0 hqb HG0 hY hU hL hL1 hL0 hd1 hd0
    have hw1 : IntKind.u64.wrap (IntKind.u64.wrap (IntKind.u64.wrap ((U : Int) * 4294967296) + (d1 : Int)) - IntKind.u64.wrap ((Q1 : Int) * (Y : Int))) = (R1 : Int) := by
      rw [HQ1.out, HR1.out]; exact DivA.rest_int U d1 Y (by omega) hYt
    have hw0 : IntKind.u64.wrap (IntKind.u64.wrap (IntKind.u64.wrap ((R1 : Int) * 4294967296) + (d0 : Int)) - IntKind.u64.wrap ((Q0 : Int) * (Y : Int))) = (R0 : Int) := by
      rw [HQ0.out, HR0.out]; exact DivA.rest_int R1 d0 Y (by omega) hYt
    have hRY : R1 < Y := by rw [HR1.out]; exact Nat.mod_lt _ (by omega)
    have hQ1b : (Q1 : Int) < 4294967296 := by have := DivA.digit_lt U d1 Y 4294967296 hUY b4; rw [← HQ1.out] at this; omega
    have hQ0b : (Q0 : Int) < 4294967296 := by have := DivA.digit_lt R1 d0 Y 4294967296 hRY b5; rw [← HQ0.out] at this; omega
    have hq := DivA.guess_int R1 y1 (by omega)
    have hqy : R1 / y1 * y1 ≤ R1 := Nat.div_mul_le_self _ _
    have hm := DivA.prod_int (R1 / y1) y1 (by omega)
    have HG : Hid (R1 / y1 * y1 + (R1 - R1 / y1 * y1) = R1) := Lib.hid (by omega)
    have hrest : (R1 : Int) - ((R1 / y1 * y1 : Nat) : Int) = ((R1 - R1 / y1 * y1 : Nat) : Int) := by omega
    have hr0 : R1 - R1 / y1 * y1 < 4294967296 := by have := Nat.mod_lt R1 (show 0 < y1 by omega); have := Nat.div_add_mod' R1 y1; omega
    have HGE : Hid (Q0 ≤ R1 / y1) := Lib.hid (by rw [HQ0.out, HY.out]; exact DivA.guess_ge R1 d0 y1 y0 4294967296 (by omega) b5)
    have hqb := DivA.guess_le R1 y1 y0 b1 b3 (by rw [← HY.out]; exact hRY)
    generalize hm0 : R1 / y1 * y1 = m1 at *
    generalize R1 / y1 = qb at *
    have HGM := Lib.hid hm0
    clear hm0
    generalize R1 - m1 = rb at *
    have HG1 : Guess R1 y1 Q0 qb rb := ⟨by have := HG.out; have := HGM.out; omega, HGE.out, hqb, hr0⟩
    clear HG HGE HGM
    go_upto_block 2 with fail
    go_cut [18, 16] from 102 to 120 (fun a b wx => a = .int .u64 (Q0 : Nat) ∧ w = wx)
    case first =>
      go_wp2_with fail
      go_loop [18, 16] (fun a b => ∃ q r : Int, GuessI R1 y1 Q0 q r ∧ a = .int .u64 q ∧ b = .int .u64 r) (fun a _ => (intOf a).toNat)
      case atStart => exact ⟨qb, rb, ⟨qb, rb, rfl, rfl, HG1⟩, rfl, rfl⟩
      case round =>
        obtain ⟨q, r, HGI, rfl, rfl⟩ := hrel
        obtain ⟨qn, rn, hqn, hrn, HGu⟩ := HGI
        have gq : qn ≤ 4294967297 := HGu.2.2.1
        have gr : rn < 4294967296 := HGu.2.2.2
        have pb := DivA.guess_prod qn y0 gq (by omega)
        have pw := DivA.prod_int qn y0 (by omega)
        obtain ⟨pn, hp⟩ : ∃ p, qn * y0 = p := ⟨_, rfl⟩
        have HP := Lib.hid hp
        rw [hp] at pb pw
        obtain ⟨p, hpn⟩ : ∃ p : Int, p = pn := ⟨_, rfl⟩
        rw [← hqn, ← hpn] at pw
        have k1 : 0 ≤ q := by omega
        have k2 : 0 ≤ r := by omega
        have k3 : q ≤ 4294967297 := by omega
        have k4 : r < 4294967296 := by omega
        have k5 : 0 ≤ p := by omega
        have k6 : p ≤ 18446744073709551615 := by omega
        have HQn := Lib.hid hqn
        have HRn := Lib.hid hrn
        have HPn := Lib.hid hpn
        clear hqn hrn hpn hp gq gr pb
        by_cases c1 : 4294967296 ≤ q
        · by_cases c2 : 4294967296 ≤ r + y1
          · have HD := Lib.hid (HGu.last HY hRY b5 HQ0 b3 (Or.inl (by have := HQn.out; omega)) (by have := HRn.out; omega))
            go_wp2_with fail
            go_meet
            case rel => exact ⟨num_eq (by have := HD.out; have := HQn.out; omega), rfl⟩
          · have HD := Lib.hid (HGu.next HY hRY b5 HQ0 (Or.inl (by have := HQn.out; omega)) (by have := HRn.out; omega))
            go_wp2_with fail
            go_round
            case rel => exact ⟨_, _, ⟨_, _, by have := HQn.out; omega, by have := HRn.out; omega, HD.out⟩, rfl, rfl⟩
            case measure => simp [intOf]; omega
        · by_cases c3 : 4294967296 * r + d0 < p
          · have ht : 4294967296 * rn + d0 < qn * y0 := by rw [HP.out]; have := HPn.out; have := HRn.out; omega
            have HD0 := Lib.hid (HGu.down HY hRY b5 HQ0 (Or.inr ht)).1
            have k7 : 1 ≤ q := by have := HD0.out; have := HQn.out; omega
            by_cases c2 : 4294967296 ≤ r + y1
            · have HD := Lib.hid (HGu.last HY hRY b5 HQ0 b3 (Or.inr ht) (by have := HRn.out; omega))
              clear ht
              go_wp2_with fail
              go_meet
              case rel => exact ⟨num_eq (by have := HD.out; have := HQn.out; omega), rfl⟩
            · have HD := Lib.hid (HGu.next HY hRY b5 HQ0 (Or.inr ht) (by have := HRn.out; omega))
              clear ht
              go_wp2_with fail
              go_round
              case rel => exact ⟨_, _, ⟨_, _, by have := HQn.out; omega, by have := HRn.out; omega, HD.out⟩, rfl, rfl⟩
              case measure => simp [intOf]; omega
          · have HD := Lib.hid (HGu.done HY hRY HQ0 (by rw [HP.out]; have := HPn.out; have := HRn.out; omega))
            go_wp2_with fail
            go_meet
            case rel => exact ⟨num_eq (by have := HD.out; have := HQn.out; omega), rfl⟩
    case rest =>
      obtain ⟨rfl, rfl⟩ := hcut
      clear hw1 hq hqy hm hrest hr0 hqb HG1
      go_wp2
      go_ret2
      exact ⟨ret_two (by omega) (shr_nat R0 s).symm, rfl⟩

theorem split_low (U L u : Nat) (h : U * 18446744073709551616 + L = u) : U * (4294967296 * 4294967296) + L / 4294967296 * 4294967296 + L % 4294967296 = u := by
  subst h
  rw [show (4294967296 * 4294967296 : Nat) = 18446744073709551616 from rfl]
  rw [Nat.add_assoc, Nat.div_add_mod' L 4294967296]

/-- Quotient and rest, where the quotient fits. -/
theorem div64_any (hi lo y : Nat) (hy : hi < y) (hy1 : y < 18446744073709551616) (hl : lo < 18446744073709551616) (w : World) :
    Calls Tryz.prog 158 #[.int .u64 hi, .int .u64 lo, .int .u64 y] w fun e w' => e = .returned (.tuple #[.int .u64 (((hi * 18446744073709551616 + lo) / y : Nat) : Int), .int .u64 (((hi * 18446744073709551616 + lo) % y : Nat) : Int)]) ∧ ∃ n, w' = w.drewN n := by
  by_cases h0 : hi = 0
  · subst h0
    refine (div64_small lo y (by omega) hy1 hl w).mono ?_
    rintro e w' ⟨rfl, rfl⟩
    rw [Nat.zero_mul, Nat.zero_add]
    exact ⟨rfl, 1, rfl⟩
  · obtain ⟨n1, n2, n3⟩ := norm_bounds y (by omega) hy1
    have hbl := Lib.bitLen_le y 64 (Nat.le_refl _) hy1
    generalize hsd : 64 - Lib.bitLen y = s at *
    obtain ⟨Y, hYd⟩ : ∃ Y, y * 2 ^ s = Y := ⟨_, rfl⟩
    rw [hYd] at n2 n3
    obtain ⟨U, L, u1, u2, u3, u4, u5⟩ := DivA.setup hi lo y s Y n1 hYd hy hl n3
    have hYw : IntKind.u64.wrap ((y : Int) * 2 ^ s) = (Y : Int) := by
      have c1 : ((y : Int) * 2 ^ s) = ((y * 2 ^ s : Nat) : Int) := by rw [Int.natCast_mul, Int.natCast_pow]; rfl
      rw [c1, hYd]; exact BitsA.stays _ n3
    have hc : ∀ w, Calls Tryz.prog 169 #[.int .u64 y] w fun e w' => e = .returned (.int .i64 (s : Nat)) ∧ w = w' := by
      intro w
      refine (lz64_any (y : Int) w (by omega) (by omega)).mono ?_
      rintro e w' ⟨rfl, rfl⟩
      exact ⟨ret_int (by rw [Int.toNat_natCast]; omega), rfl⟩
    refine (div64_core hi lo y s (by omega) hy hy1 hl w n1 Y (Y / 4294967296) (Y % 4294967296) U L (L / 4294967296) (L % 4294967296) _ _ _ _ hYw (BitsA.high32 Y) (BitsA.low32 Y n3) u4 u5 (BitsA.high32 L) (BitsA.low32 L u2)
      (by omega) (by omega) (by omega) (by omega) (by omega) (Lib.hid (by omega)) u1 n3 (Lib.hid rfl) (Lib.hid rfl) (Lib.hid rfl) (Lib.hid rfl) hc).mono ?_
    rintro e w' ⟨rfl, rfl⟩
    have t := DivA.two_digits U (L / 4294967296) (L % 4294967296) Y 4294967296 (by omega)
    have e0 : U * (4294967296 * 4294967296) + L / 4294967296 * 4294967296 + L % 4294967296 = (hi * 18446744073709551616 + lo) * 2 ^ s := split_low U L _ u3
    rw [e0, ← hYd] at t
    have sc := DivA.scaled (hi * 18446744073709551616 + lo) y (2 ^ s) (Nat.two_pow_pos s)
    rw [sc.1, hYd] at t
    rw [hYd] at sc
    refine ⟨ret_two ?_ ?_, 0, rfl⟩
    · rw [t.1]
    · rw [t.2, sc.2]

end Go.Proofs.YtgeneoamngfomaaGreatDoor

namespace Go.Proofs.YtgeneoamngfomaaGreatDoor
open Go.RowKit
set_option linter.unusedVariables false

def mulHi (x y : Int) : Int := x * y / 18446744073709551616
def mulLo (x y : Int) : Int := x * y % 18446744073709551616
def divQ (h l y : Int) : Int := (h * 18446744073709551616 + l) / y
def divR (h l y : Int) : Int := (h * 18446744073709551616 + l) % y

theorem mul64_int (x y : Int) (w : World) (h0 : 0 ≤ x) (h1 : x ≤ 18446744073709551615) (g0 : 0 ≤ y) (g1 : y ≤ 18446744073709551615) :
    Calls Tryz.prog 157 #[.int .u64 x, .int .u64 y] w fun e w' => e = .returned (.tuple #[.int .u64 (mulHi x y), .int .u64 (mulLo x y)]) ∧ w = w' := by
  obtain ⟨X, rfl⟩ := Int.eq_ofNat_of_zero_le h0
  obtain ⟨Y, rfl⟩ := Int.eq_ofNat_of_zero_le g0
  refine (mul64_any X Y (by omega) (by omega) w).mono ?_
  rintro e w' ⟨rfl, rfl⟩
  refine ⟨ret_two ?_ ?_, rfl⟩
  · unfold mulHi; rw [Int.natCast_ediv, Int.natCast_mul]; rfl
  · unfold mulLo; rw [Int.natCast_emod, Int.natCast_mul]; rfl

theorem div64_int (h l y : Int) (w : World) (h0 : 0 ≤ h) (h1 : h < y) (l0 : 0 ≤ l) (l1 : l ≤ 18446744073709551615) (y1 : y ≤ 18446744073709551615) :
    Calls Tryz.prog 158 #[.int .u64 h, .int .u64 l, .int .u64 y] w fun e w' => e = .returned (.tuple #[.int .u64 (divQ h l y), .int .u64 (divR h l y)]) ∧ ∃ n, w' = w.drewN n := by
  obtain ⟨H, rfl⟩ := Int.eq_ofNat_of_zero_le h0
  obtain ⟨L, rfl⟩ := Int.eq_ofNat_of_zero_le l0
  obtain ⟨Y, rfl⟩ := Int.eq_ofNat_of_zero_le (show 0 ≤ y by omega)
  refine (div64_any H L Y (by omega) (by omega) (by omega) w).mono ?_
  rintro e w' ⟨rfl, n, rfl⟩
  refine ⟨ret_two ?_ ?_, n, rfl⟩
  · unfold divQ; rw [Int.natCast_ediv, Int.natCast_add, Int.natCast_mul]; rfl
  · unfold divR; rw [Int.natCast_emod, Int.natCast_add, Int.natCast_mul]; rfl

/-- The nearest whole number of p through d, an even one of two. -/
def nearI (p d : Int) : Int := p / d + up (p / d) (p % d) d

/-- Whether just one of two is below nought. -/
def odds (a b c : Int) : Bool := ((decide (a < 0) != decide (b < 0)) != decide (c < 0))

/-- a times b through c, rounded. -/
def md (a b c : Int) : Int := sgn (odds a b c) (nearI (absI a * absI b) (absI c))

theorem up_01 (q r d : Int) : 0 ≤ up q r d ∧ up q r d ≤ 1 := by unfold up; split <;> omega
theorem absI_bd (a : Int) (h0 : -9223372036854775808 ≤ a) (h1 : a ≤ 9223372036854775807) : 0 ≤ absI a ∧ absI a ≤ 9223372036854775808 := by unfold absI; omega
theorem hl_back (p : Int) : p / 18446744073709551616 * 18446744073709551616 + p % 18446744073709551616 = p := by omega

theorem sgn_out (b : Bool) (m : Int) (h : 18446744073709551616 ≤ m) : inR (sgn b m) = false := by cases b <;> simp [inR, sgn] <;> omega

theorem near_out (p d : Int) (hd : 0 < d) (hp : 0 ≤ p) (h : d ≤ p / 18446744073709551616) : 18446744073709551616 ≤ nearI p d := by
  unfold nearI
  have hu := (up_01 (p / d) (p % d) d).1
  have : 18446744073709551616 ≤ p / d := by
    rw [Int.le_ediv_iff_mul_le hd]
    have := hl_back p
    omega
  omega

theorem quo_le (p d : Int) (hd : 0 < d) (h : p / 18446744073709551616 < d) : p / d ≤ 18446744073709551615 := by
  have : p / d < 18446744073709551616 := by
    rw [Int.ediv_lt_iff_lt_mul hd]
    omega
  omega

set_option maxHeartbeats 1000000 in
theorem muldiv_any (a b c : Int) (w : World) (a0 : -9223372036854775808 ≤ a) (a1 : a ≤ 9223372036854775807) (b0 : -9223372036854775808 ≤ b) (b1 : b ≤ 9223372036854775807)
    (c0 : -9223372036854775808 ≤ c) (c1 : c ≤ 9223372036854775807) (hc : c ≠ 0) :
    Calls Tryz.prog 141 #[.int .i64 a, .int .i64 b, .int .i64 c] w fun e w' => e = .returned (.tuple #[.int .i64 (fitN (md a b c)), .int .i64 (fitE (md a b c))]) ∧ ∃ n, w' = w.drewN n := by
  have hcb : (c == 0) = false := by simpa using hc
  obtain ⟨sa0, sa1⟩ := absI_bd a a0 a1
  obtain ⟨sb0, sb1⟩ := absI_bd b b0 b1
  obtain ⟨sc0, sc1⟩ := absI_bd c c0 c1
  have sc2 : 0 < absI c := by unfold absI; omega
  have hp0 : 0 ≤ absI a * absI b := Int.mul_nonneg sa0 sb0
  have hh0 : 0 ≤ mulHi (absI a) (absI b) := by unfold mulHi; omega
  have hl0 : 0 ≤ mulLo (absI a) (absI b) := by unfold mulLo; omega
  have hl1 : mulLo (absI a) (absI b) ≤ 18446744073709551615 := by unfold mulLo; omega
  by_cases hov : absI c ≤ mulHi (absI a) (absI b)
  · have HF := Lib.hid (sgn_out (odds a b c) _ (near_out _ _ sc2 hp0 hov))
    clear hc
    go_enter Tryz.func141, Tryz.ntmps141
    go_wp2_with (first | (go_at_call 156; refine (size_any _ _ (by omega) (by omega)).mono ?_; rintro e w' ⟨rfl, rfl⟩) | (go_at_call 157; refine (mul64_int _ _ _ (by omega) (by omega) (by omega) (by omega)).mono ?_; rintro e w' ⟨rfl, rfl⟩))
    go_ret2
    exact ⟨ret_two (fitN_out HF.out).symm (fitE_out HF.out).symm, 0, rfl⟩
  · have eP : mulHi (absI a) (absI b) * 18446744073709551616 + mulLo (absI a) (absI b) = absI a * absI b := by unfold mulHi mulLo; omega
    have hq0 : 0 ≤ divQ (mulHi (absI a) (absI b)) (mulLo (absI a) (absI b)) (absI c) := by unfold divQ; rw [eP]; exact Int.ediv_nonneg hp0 (by omega)
    have hq1 : divQ (mulHi (absI a) (absI b)) (mulLo (absI a) (absI b)) (absI c) ≤ 18446744073709551615 := by
      unfold divQ; rw [eP]; exact quo_le _ _ sc2 (by unfold mulHi at hov; omega)
    have hr0 : 0 ≤ divR (mulHi (absI a) (absI b)) (mulLo (absI a) (absI b)) (absI c) := Int.emod_nonneg _ (by omega)
    have hr1 : divR (mulHi (absI a) (absI b)) (mulLo (absI a) (absI b)) (absI c) < absI c := Int.emod_lt_of_pos _ sc2
    have HN : Hid (md a b c = sgn (odds a b c) (divQ (mulHi (absI a) (absI b)) (mulLo (absI a) (absI b)) (absI c) + up (divQ (mulHi (absI a) (absI b)) (mulLo (absI a) (absI b)) (absI c)) (divR (mulHi (absI a) (absI b)) (mulLo (absI a) (absI b)) (absI c)) (absI c))) := by
      apply Lib.hid; unfold md nearI divQ divR; rw [eP]
    clear eP hp0 hc
    have hdiv := fun w => div64_int (mulHi (absI a) (absI b)) (mulLo (absI a) (absI b)) (absI c) w hh0 (by omega) hl0 hl1 (by omega)
    have HDiv := Lib.hid hdiv
    clear hdiv
    generalize divQ (mulHi (absI a) (absI b)) (mulLo (absI a) (absI b)) (absI c) = q at *
    generalize divR (mulHi (absI a) (absI b)) (mulLo (absI a) (absI b)) (absI c) = r at *
    obtain ⟨hu0, hu1⟩ := up_01 q r (absI c)
    by_cases hcarry : q + up q r (absI c) ≤ 18446744073709551615
    · have hadd : ∀ w, (callFunc 72 #[.int .u64 q, .int .u64 (up q r (absI c)), .int .u64 0]).run Tryz.prog w = .ok (.value (.tuple #[.int .u64 (q + up q r (absI c)), .int .u64 0])) w := by
        intro w; rw [add64_run q _ hq0 hu0]
        rw [show (q + up q r (absI c)) % 18446744073709551616 = q + up q r (absI c) from by omega, show (q + up q r (absI c)) / 18446744073709551616 = 0 from by omega]
      go_enter Tryz.func141, Tryz.ntmps141
      go_wp2_with (first | (go_at_call 156; refine (size_any _ _ (by omega) (by omega)).mono ?_; rintro e w' ⟨rfl, rfl⟩) | (go_at_call 157; refine (mul64_int _ _ _ (by omega) (by omega) (by omega) (by omega)).mono ?_; rintro e w' ⟨rfl, rfl⟩) | (go_at_call 158; refine (HDiv.out _).mono ?_; rintro e w' ⟨rfl, n, rfl⟩) | (go_at_call 159; refine (roundUp_any _ _ _ _ (by omega) (by omega) (by omega) (by omega)).mono ?_; rintro e w' ⟨rfl, rfl⟩) | (go_at_call 160; refine (signed_any _ _ _ (by omega) (by omega)).mono ?_; rintro e w' ⟨rfl, rfl⟩))
      go_ret2
      exact ⟨ret_two (by rw [HN.out]; rfl) (by rw [HN.out]; rfl), _, rfl⟩
    · have hadd : ∀ w, (callFunc 72 #[.int .u64 q, .int .u64 (up q r (absI c)), .int .u64 0]).run Tryz.prog w = .ok (.value (.tuple #[.int .u64 0, .int .u64 1])) w := by
        intro w; rw [add64_run q _ hq0 hu0]
        rw [show (q + up q r (absI c)) % 18446744073709551616 = 0 from by omega, show (q + up q r (absI c)) / 18446744073709551616 = 1 from by omega]
      have HF := Lib.hid (sgn_out (odds a b c) (q + up q r (absI c)) (by omega))
      clear hcarry
      go_enter Tryz.func141, Tryz.ntmps141
      go_wp2_with (first | (go_at_call 156; refine (size_any _ _ (by omega) (by omega)).mono ?_; rintro e w' ⟨rfl, rfl⟩) | (go_at_call 157; refine (mul64_int _ _ _ (by omega) (by omega) (by omega) (by omega)).mono ?_; rintro e w' ⟨rfl, rfl⟩) | (go_at_call 158; refine (HDiv.out _).mono ?_; rintro e w' ⟨rfl, n, rfl⟩) | (go_at_call 159; refine (roundUp_any _ _ _ _ (by omega) (by omega) (by omega) (by omega)).mono ?_; rintro e w' ⟨rfl, rfl⟩) | (go_at_call 160; refine (signed_any _ _ _ (by omega) (by omega)).mono ?_; rintro e w' ⟨rfl, rfl⟩))
      go_ret2
      exact ⟨ret_two (by rw [HN.out]; exact (fitN_out HF.out).symm) (by rw [HN.out]; exact (fitE_out HF.out).symm), _, rfl⟩

end Go.Proofs.YtgeneoamngfomaaGreatDoor

namespace Go.Proofs.YtgeneoamngfomaaGreatDoor
open Go.RowKit
set_option linter.unusedVariables false

theorem prod_sgn (a b : Int) : sgn (decide (a < 0) != decide (b < 0)) (absI a * absI b) = a * b := by
  unfold absI sgn
  rw [← Int.natCast_mul, ← Int.natAbs_mul]
  by_cases ha : a < 0 <;> by_cases hb : b < 0
  · rw [decide_eq_true ha, decide_eq_true hb]
    have := Int.mul_pos_of_neg_of_neg ha hb
    show ((a * b).natAbs : Int) = a * b; omega
  · rw [decide_eq_true ha, decide_eq_false hb]
    have := Int.mul_nonpos_of_nonpos_of_nonneg (show a ≤ 0 by omega) (show 0 ≤ b by omega)
    show -((a * b).natAbs : Int) = a * b; omega
  · rw [decide_eq_false ha, decide_eq_true hb]
    have := Int.mul_nonpos_of_nonneg_of_nonpos (show 0 ≤ a by omega) (show b ≤ 0 by omega)
    show -((a * b).natAbs : Int) = a * b; omega
  · rw [decide_eq_false ha, decide_eq_false hb]
    have := Int.mul_nonneg (show 0 ≤ a by omega) (show 0 ≤ b by omega)
    show ((a * b).natAbs : Int) = a * b; omega

set_option maxHeartbeats 1000000 in
theorem mul_any (a b : Int) (w : World) (a0 : -9223372036854775808 ≤ a) (a1 : a ≤ 9223372036854775807) (b0 : -9223372036854775808 ≤ b) (b1 : b ≤ 9223372036854775807) :
    Calls Tryz.prog 166 #[.int .i64 a, .int .i64 b] w fun e w' => e = .returned (.tuple #[.int .i64 (fitN (a * b)), .int .i64 (fitE (a * b))]) ∧ w = w' := by
  obtain ⟨sa0, sa1⟩ := absI_bd a a0 a1
  obtain ⟨sb0, sb1⟩ := absI_bd b b0 b1
  have hp0 : 0 ≤ absI a * absI b := Int.mul_nonneg sa0 sb0
  have hh0 : 0 ≤ mulHi (absI a) (absI b) := by unfold mulHi; omega
  have HP := Lib.hid (prod_sgn a b)
  by_cases hz : mulHi (absI a) (absI b) = 0
  · have hl : mulLo (absI a) (absI b) = absI a * absI b := by unfold mulLo; unfold mulHi at hz; omega
    have hl1 : absI a * absI b ≤ 18446744073709551615 := by unfold mulHi at hz; omega
    have HM := Lib.hid (fun w => mul64_int (absI a) (absI b) w sa0 (by omega) sb0 (by omega))
    have HS := Lib.hid (fun c w => signed_any (absI a * absI b) c w hp0 hl1)
    rw [hz, hl] at HM
    have hzb : ((0 : Int) != 0) = false := rfl
    clear hz hl
    generalize absI a * absI b = P at *
    go_enter Tryz.func166, Tryz.ntmps166
    go_wp2_with (first | (go_at_call 156; refine (size_any _ _ (by omega) (by omega)).mono ?_; rintro e w' ⟨rfl, rfl⟩) | (go_at_call 157; refine (HM.out _).mono ?_; rintro e w' ⟨rfl, rfl⟩) | (go_at_call 160; refine (HS.out _ _).mono ?_; rintro e w' ⟨rfl, rfl⟩))
    go_ret2
    exact ⟨ret_two (congrArg fitN HP.out) (congrArg fitE HP.out), rfl⟩
  · have hb : (mulHi (absI a) (absI b) != 0) = true := by simpa using hz
    have HF : Hid (inR (a * b) = false) := Lib.hid (by rw [← HP.out]; exact sgn_out _ _ (by unfold mulHi at hz hh0; omega))
    clear hz
    go_enter Tryz.func166, Tryz.ntmps166
    go_wp2_with (first | (go_at_call 156; refine (size_any _ _ (by omega) (by omega)).mono ?_; rintro e w' ⟨rfl, rfl⟩) | (go_at_call 157; refine (mul64_int _ _ _ (by omega) (by omega) (by omega) (by omega)).mono ?_; rintro e w' ⟨rfl, rfl⟩))
    go_ret2
    exact ⟨ret_two (fitN_out HF.out).symm (fitE_out HF.out).symm, rfl⟩

end Go.Proofs.YtgeneoamngfomaaGreatDoor

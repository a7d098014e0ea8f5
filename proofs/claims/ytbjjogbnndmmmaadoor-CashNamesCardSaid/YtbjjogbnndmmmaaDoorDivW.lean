/-
  The contract of math/bits.Div64, walked.
-/
import Derived.Test.YtbjjogbnndmmmaaDoorDiv
import Derived.Deep.Draws
namespace Go.Proofs.YtbjjogbnndmmmaaDoor
open Go.RowKit
set_option linter.unusedVariables false

theorem shr_nat (a s : Nat) : ((a / 2 ^ s : Nat) : Int) = (a : Int) / 2 ^ s := by rw [Int.natCast_ediv, Int.natCast_pow]; rfl
theorem num_eq {k : IntKind} {a b : Int} (h : a = b) : Value.int k a = Value.int k b := by rw [h]

/-- A guess of a digit, on its way down. -/
def Guess (U y1 Q q r : Nat) : Prop := q * y1 + r = U ∧ Q ≤ q ∧ q ≤ 4294967297 ∧ r < 4294967296

def GuessI (U y1 Q : Nat) (q r : Int) : Prop := ∃ qn rn : Nat, q = qn ∧ r = rn ∧ Guess U y1 Q qn rn

theorem Guess.down {U Y y1 y0 d Q q r : Nat} (h : Guess U y1 Q q r) (HY : Hid (Y = y1 * 4294967296 + y0)) (hUY : U < Y) (hd : d < 4294967296) (HQ : Hid (Q = (U * 4294967296 + d) / Y))
    (ht : 4294967296 ≤ q ∨ 4294967296 * r + d < q * y0) : 0 < q ∧ Q ≤ q - 1 ∧ (q - 1) * y1 + (r + y1) = U := by
  have := DivA.guess_down q r U d y1 y0 4294967296 h.1 (by rw [← HY.out]; exact hUY) hd (by rw [← HY.out, ← HQ.out]; exact h.2.1) ht
  rw [← HY.out, ← HQ.out] at this
  exact this

theorem Guess.next {U Y y1 y0 d Q q r : Nat} (h : Guess U y1 Q q r) (HY : Hid (Y = y1 * 4294967296 + y0)) (hUY : U < Y) (hd : d < 4294967296) (HQ : Hid (Q = (U * 4294967296 + d) / Y))
    (ht : 4294967296 ≤ q ∨ 4294967296 * r + d < q * y0) (hr : r + y1 < 4294967296) : Guess U y1 Q (q - 1) (r + y1) := by
  obtain ⟨a, b, c⟩ := h.down HY hUY hd HQ ht
  have := h.2.2.1
  exact ⟨c, b, by omega, hr⟩

theorem Guess.last {U Y y1 y0 d Q q r : Nat} (h : Guess U y1 Q q r) (HY : Hid (Y = y1 * 4294967296 + y0)) (hUY : U < Y) (hd : d < 4294967296) (HQ : Hid (Q = (U * 4294967296 + d) / Y))
    (b3 : y0 < 4294967296) (ht : 4294967296 ≤ q ∨ 4294967296 * r + d < q * y0) (hr : 4294967296 ≤ r + y1) : q - 1 = Q := by
  obtain ⟨a, b, c⟩ := h.down HY hUY hd HQ ht
  have := h.2.2.1
  have hp : (q - 1) * y0 ≤ 4294967296 * 4294967295 := Nat.mul_le_mul (by omega) (by omega)
  have e := DivA.guess_done (q - 1) (r + y1) U d y1 y0 4294967296 c (by rw [← HY.out]; omega) (by rw [← HY.out, ← HQ.out]; exact b) (by omega)
  rw [← HY.out, ← HQ.out] at e
  exact e

theorem Guess.done {U Y y1 y0 d Q q r : Nat} (h : Guess U y1 Q q r) (HY : Hid (Y = y1 * 4294967296 + y0)) (hUY : U < Y) (HQ : Hid (Q = (U * 4294967296 + d) / Y))
    (ht : q * y0 ≤ 4294967296 * r + d) : q = Q := by
  have e := DivA.guess_done q r U d y1 y0 4294967296 h.1 (by rw [← HY.out]; omega) (by rw [← HY.out, ← HQ.out]; exact h.2.1) ht
  rw [← HY.out, ← HQ.out] at e
  exact e

set_option maxHeartbeats 2000000 in
set_option maxRecDepth 100000 in
theorem div64_core (hi lo y s : Nat) (h0 : 0 < hi) (hy : hi < y) (hy1 : y < 18446744073709551616) (hl : lo < 18446744073709551616) (w : World)
    (hs : s ≤ 63) (Y y1 y0 U L d1 d0 Q1 R1 Q0 R0 : Nat) (hY : IntKind.u64.wrap ((y : Int) * 2 ^ s) = (Y : Int)) (hd1 : (Y : Int) / 4294967296 = (y1 : Int)) (hd0 : bits .and .u64 (Y : Int) 4294967295 = (y0 : Int))
    (hU : bits .or .u64 (IntKind.u64.wrap ((hi : Int) * 2 ^ s)) ((lo : Int) / 2 ^ (64 - s)) = (U : Int)) (hL : IntKind.u64.wrap ((lo : Int) * 2 ^ s) = (L : Int))
    (hL1 : (L : Int) / 4294967296 = (d1 : Int)) (hL0 : bits .and .u64 (L : Int) 4294967295 = (d0 : Int))
    (b1 : 2147483648 ≤ y1) (b2 : y1 < 4294967296) (b3 : y0 < 4294967296) (b4 : d1 < 4294967296) (b5 : d0 < 4294967296) (HY : Hid (Y = y1 * 4294967296 + y0)) (hUY : U < Y) (hYt : Y < 18446744073709551616)
    (HQ1 : Hid (Q1 = (U * 4294967296 + d1) / Y)) (HR1 : Hid (R1 = (U * 4294967296 + d1) % Y)) (HQ0 : Hid (Q0 = (R1 * 4294967296 + d0) / Y)) (HR0 : Hid (R0 = (R1 * 4294967296 + d0) % Y))
    (hc : ∀ w, Calls Tryd.prog 105 #[.int .u64 y] w fun e w' => e = .returned (.int .i64 (s : Nat)) ∧ w = w') :
    Calls Tryd.prog 76 #[.int .u64 hi, .int .u64 lo, .int .u64 y] w fun e w' => e = .returned (.tuple #[.int .u64 ((Q1 * 4294967296 + Q0 : Nat) : Int), .int .u64 ((R0 / 2 ^ s : Nat) : Int)]) ∧ w = w' := by
  have HC := Lib.hid hc
  clear hc
  have hq := DivA.guess_int U y1 (by omega)
  have hqy : U / y1 * y1 ≤ U := Nat.div_mul_le_self _ _
  have hm := DivA.prod_int (U / y1) y1 (by omega)
  have HG : Hid (U / y1 * y1 + (U - U / y1 * y1) = U) := Lib.hid (by omega)
  have hrest : (U : Int) - ((U / y1 * y1 : Nat) : Int) = ((U - U / y1 * y1 : Nat) : Int) := by omega
  have hr0 : U - U / y1 * y1 < 4294967296 := by have := Nat.mod_lt U (show 0 < y1 by omega); have := Nat.div_add_mod' U y1; omega
  have HGE : Hid (Q1 ≤ U / y1) := Lib.hid (by rw [HQ1.out, HY.out]; exact DivA.guess_ge U d1 y1 y0 4294967296 (by omega) b4)
  have hqb := DivA.guess_le U y1 y0 b1 b3 (by rw [← HY.out]; exact hUY)
  generalize hm0 : U / y1 * y1 = m0 at *
  generalize U / y1 = qa at *
  have HGM := Lib.hid hm0
  clear hm0
  generalize U - m0 = ra at *
  have HG0 : Guess U y1 Q1 qa ra := ⟨by have := HG.out; have := HGM.out; omega, HGE.out, hqb, hr0⟩
  clear HG HGE HGM
  go_enter Tryd.func76, Tryd.ntmps76
  go_upto_block 0 with (go_at_call 105; refine (HC.out _).mono ?_; rintro e w' ⟨rfl, rfl⟩)
  go_cut [15, 16] from 67 to 85 (fun a b wx => a = .int .u64 (Q1 : Nat) ∧ w = wx)
  case first =>
    go_wp2_with fail
    go_loop [15, 16] (fun a b => ∃ q r : Int, GuessI U y1 Q1 q r ∧ a = .int .u64 q ∧ b = .int .u64 r) (fun a _ => (intOf a).toNat)
    case atStart => exact ⟨qa, ra, ⟨qa, ra, rfl, rfl, HG0⟩, rfl, rfl⟩
    case round =>
      obtain ⟨q, r, HGI, rfl, rfl⟩ := hrel
      obtain ⟨qn, rn, hqn, hrn, HGu⟩ := HGI
      have gq : qn ≤ 4294967297 := HGu.2.2.1
      have gr : rn < 4294967296 := HGu.2.2.2
      have pb := DivA.guess_prod qn y0 gq (by omega)
      have pw := DivA.prod_int qn y0 (by omega)
      obtain ⟨pn, hp⟩ : ∃ p, qn * y0 = p := ⟨_, rfl⟩
      have HP := Lib.hid hp
      rw [hp] at pb pw
      obtain ⟨p, hpn⟩ : ∃ p : Int, p = pn := ⟨_, rfl⟩
      rw [← hqn, ← hpn] at pw
      have k1 : 0 ≤ q := by omega
      have k2 : 0 ≤ r := by omega
      have k3 : q ≤ 4294967297 := by omega
      have k4 : r < 4294967296 := by omega
      have k5 : 0 ≤ p := by omega
      have k6 : p ≤ 18446744073709551615 := by omega
      have HQn := Lib.hid hqn
      have HRn := Lib.hid hrn
      have HPn := Lib.hid hpn
      clear hqn hrn hpn hp gq gr pb
      by_cases c1 : 4294967296 ≤ q
      · by_cases c2 : 4294967296 ≤ r + y1
        · have HD := Lib.hid (HGu.last HY hUY b4 HQ1 b3 (Or.inl (by have := HQn.out; omega)) (by have := HRn.out; omega))
          go_wp2_with fail
          go_meet
          case rel => exact ⟨num_eq (by have := HD.out; have := HQn.out; omega), rfl⟩
        · have HD := Lib.hid (HGu.next HY hUY b4 HQ1 (Or.inl (by have := HQn.out; omega)) (by have := HRn.out; omega))
          go_wp2_with fail
          go_round
          case rel => exact ⟨_, _, ⟨_, _, by have := HQn.out; omega, by have := HRn.out; omega, HD.out⟩, rfl, rfl⟩
          case measure => simp [intOf]; omega
      · by_cases c3 : 4294967296 * r + d1 < p
        · have ht : 4294967296 * rn + d1 < qn * y0 := by rw [HP.out]; have := HPn.out; have := HRn.out; omega
          have HD0 := Lib.hid (HGu.down HY hUY b4 HQ1 (Or.inr ht)).1
          have k7 : 1 ≤ q := by have := HD0.out; have := HQn.out; omega
          by_cases c2 : 4294967296 ≤ r + y1
          · have HD := Lib.hid (HGu.last HY hUY b4 HQ1 b3 (Or.inr ht) (by have := HRn.out; omega))
            clear ht
            go_wp2_with fail
            go_meet
            case rel => exact ⟨num_eq (by have := HD.out; have := HQn.out; omega), rfl⟩
          · have HD := Lib.hid (HGu.next HY hUY b4 HQ1 (Or.inr ht) (by have := HRn.out; omega))
            clear ht
            go_wp2_with fail
            go_round
            case rel => exact ⟨_, _, ⟨_, _, by have := HQn.out; omega, by have := HRn.out; omega, HD.out⟩, rfl, rfl⟩
            case measure => simp [intOf]; omega
        · have HD := Lib.hid (HGu.done HY hUY HQ1 (by rw [HP.out]; have := HPn.out; have := HRn.out; omega))
          go_wp2_with fail
          go_meet
          case rel => exact ⟨num_eq (by have := HD.out; have := HQn.out; omega), rfl⟩
  case rest =>
    obtain ⟨rfl, rfl⟩ := hcut
    clear hq hqy hm hrest hr0 hqb HG0 hY hU hL hL1 hL0 hd1 hd0
    have hw1 : IntKind.u64.wrap (IntKind.u64.wrap (IntKind.u64.wrap ((U : Int) * 4294967296) + (d1 : Int)) - IntKind.u64.wrap ((Q1 : Int) * (Y : Int))) = (R1 : Int) := by
      rw [HQ1.out, HR1.out]; exact DivA.rest_int U d1 Y (by omega) hYt
    have hw0 : IntKind.u64.wrap (IntKind.u64.wrap (IntKind.u64.wrap ((R1 : Int) * 4294967296) + (d0 : Int)) - IntKind.u64.wrap ((Q0 : Int) * (Y : Int))) = (R0 : Int) := by
      rw [HQ0.out, HR0.out]; exact DivA.rest_int R1 d0 Y (by omega) hYt
    have hRY : R1 < Y := by rw [HR1.out]; exact Nat.mod_lt _ (by omega)
    have hQ1b : (Q1 : Int) < 4294967296 := by have := DivA.digit_lt U d1 Y 4294967296 hUY b4; rw [← HQ1.out] at this; omega
    have hQ0b : (Q0 : Int) < 4294967296 := by have := DivA.digit_lt R1 d0 Y 4294967296 hRY b5; rw [← HQ0.out] at this; omega
    have hq := DivA.guess_int R1 y1 (by omega)
    have hqy : R1 / y1 * y1 ≤ R1 := Nat.div_mul_le_self _ _
    have hm := DivA.prod_int (R1 / y1) y1 (by omega)
    have HG : Hid (R1 / y1 * y1 + (R1 - R1 / y1 * y1) = R1) := Lib.hid (by omega)
    have hrest : (R1 : Int) - ((R1 / y1 * y1 : Nat) : Int) = ((R1 - R1 / y1 * y1 : Nat) : Int) := by omega
    have hr0 : R1 - R1 / y1 * y1 < 4294967296 := by have := Nat.mod_lt R1 (show 0 < y1 by omega); have := Nat.div_add_mod' R1 y1; omega
    have HGE : Hid (Q0 ≤ R1 / y1) := Lib.hid (by rw [HQ0.out, HY.out]; exact DivA.guess_ge R1 d0 y1 y0 4294967296 (by omega) b5)
    have hqb := DivA.guess_le R1 y1 y0 b1 b3 (by rw [← HY.out]; exact hRY)
    generalize hm0 : R1 / y1 * y1 = m1 at *
    generalize R1 / y1 = qb at *
    have HGM := Lib.hid hm0
    clear hm0
    generalize R1 - m1 = rb at *
    have HG1 : Guess R1 y1 Q0 qb rb := ⟨by have := HG.out; have := HGM.out; omega, HGE.out, hqb, hr0⟩
    clear HG HGE HGM
    go_upto_block 2 with fail
    go_cut [18, 16] from 102 to 120 (fun a b wx => a = .int .u64 (Q0 : Nat) ∧ w = wx)
    case first =>
      go_wp2_with fail
      go_loop [18, 16] (fun a b => ∃ q r : Int, GuessI R1 y1 Q0 q r ∧ a = .int .u64 q ∧ b = .int .u64 r) (fun a _ => (intOf a).toNat)
      case atStart => exact ⟨qb, rb, ⟨qb, rb, rfl, rfl, HG1⟩, rfl, rfl⟩
      case round =>
        obtain ⟨q, r, HGI, rfl, rfl⟩ := hrel
        obtain ⟨qn, rn, hqn, hrn, HGu⟩ := HGI
        have gq : qn ≤ 4294967297 := HGu.2.2.1
        have gr : rn < 4294967296 := HGu.2.2.2
        have pb := DivA.guess_prod qn y0 gq (by omega)
        have pw := DivA.prod_int qn y0 (by omega)
        obtain ⟨pn, hp⟩ : ∃ p, qn * y0 = p := ⟨_, rfl⟩
        have HP := Lib.hid hp
        rw [hp] at pb pw
        obtain ⟨p, hpn⟩ : ∃ p : Int, p = pn := ⟨_, rfl⟩
        rw [← hqn, ← hpn] at pw
        have k1 : 0 ≤ q := by omega
        have k2 : 0 ≤ r := by omega
        have k3 : q ≤ 4294967297 := by omega
        have k4 : r < 4294967296 := by omega
        have k5 : 0 ≤ p := by omega
        have k6 : p ≤ 18446744073709551615 := by omega
        have HQn := Lib.hid hqn
        have HRn := Lib.hid hrn
        have HPn := Lib.hid hpn
        clear hqn hrn hpn hp gq gr pb
        by_cases c1 : 4294967296 ≤ q
        · by_cases c2 : 4294967296 ≤ r + y1
          · have HD := Lib.hid (HGu.last HY hRY b5 HQ0 b3 (Or.inl (by have := HQn.out; omega)) (by have := HRn.out; omega))
            go_wp2_with fail
            go_meet
            case rel => exact ⟨num_eq (by have := HD.out; have := HQn.out; omega), rfl⟩
          · have HD := Lib.hid (HGu.next HY hRY b5 HQ0 (Or.inl (by have := HQn.out; omega)) (by have := HRn.out; omega))
            go_wp2_with fail
            go_round
            case rel => exact ⟨_, _, ⟨_, _, by have := HQn.out; omega, by have := HRn.out; omega, HD.out⟩, rfl, rfl⟩
            case measure => simp [intOf]; omega
        · by_cases c3 : 4294967296 * r + d0 < p
          · have ht : 4294967296 * rn + d0 < qn * y0 := by rw [HP.out]; have := HPn.out; have := HRn.out; omega
            have HD0 := Lib.hid (HGu.down HY hRY b5 HQ0 (Or.inr ht)).1
            have k7 : 1 ≤ q := by have := HD0.out; have := HQn.out; omega
            by_cases c2 : 4294967296 ≤ r + y1
            · have HD := Lib.hid (HGu.last HY hRY b5 HQ0 b3 (Or.inr ht) (by have := HRn.out; omega))
              clear ht
              go_wp2_with fail
              go_meet
              case rel => exact ⟨num_eq (by have := HD.out; have := HQn.out; omega), rfl⟩
            · have HD := Lib.hid (HGu.next HY hRY b5 HQ0 (Or.inr ht) (by have := HRn.out; omega))
              clear ht
              go_wp2_with fail
              go_round
              case rel => exact ⟨_, _, ⟨_, _, by have := HQn.out; omega, by have := HRn.out; omega, HD.out⟩, rfl, rfl⟩
              case measure => simp [intOf]; omega
          · have HD := Lib.hid (HGu.done HY hRY HQ0 (by rw [HP.out]; have := HPn.out; have := HRn.out; omega))
            go_wp2_with fail
            go_meet
            case rel => exact ⟨num_eq (by have := HD.out; have := HQn.out; omega), rfl⟩
    case rest =>
      obtain ⟨rfl, rfl⟩ := hcut
      clear hw1 hq hqy hm hrest hr0 hqb HG1
      go_wp2
      go_ret2
      exact ⟨ret_two (by omega) (shr_nat R0 s).symm, rfl⟩

theorem split_low (U L u : Nat) (h : U * 18446744073709551616 + L = u) : U * (4294967296 * 4294967296) + L / 4294967296 * 4294967296 + L % 4294967296 = u := by
  subst h
  rw [show (4294967296 * 4294967296 : Nat) = 18446744073709551616 from rfl]
  rw [Nat.add_assoc, Nat.div_add_mod' L 4294967296]

/-- Quotient and rest, where the quotient fits. -/
theorem div64_any (hi lo y : Nat) (hy : hi < y) (hy1 : y < 18446744073709551616) (hl : lo < 18446744073709551616) (w : World) :
    Calls Tryd.prog 76 #[.int .u64 hi, .int .u64 lo, .int .u64 y] w fun e w' => e = .returned (.tuple #[.int .u64 (((hi * 18446744073709551616 + lo) / y : Nat) : Int), .int .u64 (((hi * 18446744073709551616 + lo) % y : Nat) : Int)]) ∧ ∃ n, w' = w.drewN n := by
  by_cases h0 : hi = 0
  · subst h0
    refine (div64_small lo y (by omega) hy1 hl w).mono ?_
    rintro e w' ⟨rfl, rfl⟩
    rw [Nat.zero_mul, Nat.zero_add]
    exact ⟨rfl, 1, rfl⟩
  · obtain ⟨n1, n2, n3⟩ := norm_bounds y (by omega) hy1
    have hbl := Lib.bitLen_le y 64 (Nat.le_refl _) hy1
    generalize hsd : 64 - Lib.bitLen y = s at *
    obtain ⟨Y, hYd⟩ : ∃ Y, y * 2 ^ s = Y := ⟨_, rfl⟩
    rw [hYd] at n2 n3
    obtain ⟨U, L, u1, u2, u3, u4, u5⟩ := DivA.setup hi lo y s Y n1 hYd hy hl n3
    have hYw : IntKind.u64.wrap ((y : Int) * 2 ^ s) = (Y : Int) := by
      have c1 : ((y : Int) * 2 ^ s) = ((y * 2 ^ s : Nat) : Int) := by rw [Int.natCast_mul, Int.natCast_pow]; rfl
      rw [c1, hYd]; exact BitsA.stays _ n3
    have hc : ∀ w, Calls Tryd.prog 105 #[.int .u64 y] w fun e w' => e = .returned (.int .i64 (s : Nat)) ∧ w = w' := by
      intro w
      refine (lz64_any (y : Int) w (by omega) (by omega)).mono ?_
      rintro e w' ⟨rfl, rfl⟩
      exact ⟨ret_int (by rw [Int.toNat_natCast]; omega), rfl⟩
    refine (div64_core hi lo y s (by omega) hy hy1 hl w n1 Y (Y / 4294967296) (Y % 4294967296) U L (L / 4294967296) (L % 4294967296) _ _ _ _ hYw (BitsA.high32 Y) (BitsA.low32 Y n3) u4 u5 (BitsA.high32 L) (BitsA.low32 L u2)
      (by omega) (by omega) (by omega) (by omega) (by omega) (Lib.hid (by omega)) u1 n3 (Lib.hid rfl) (Lib.hid rfl) (Lib.hid rfl) (Lib.hid rfl) hc).mono ?_
    rintro e w' ⟨rfl, rfl⟩
    have t := DivA.two_digits U (L / 4294967296) (L % 4294967296) Y 4294967296 (by omega)
    have e0 : U * (4294967296 * 4294967296) + L / 4294967296 * 4294967296 + L % 4294967296 = (hi * 18446744073709551616 + lo) * 2 ^ s := split_low U L _ u3
    rw [e0, ← hYd] at t
    have sc := DivA.scaled (hi * 18446744073709551616 + lo) y (2 ^ s) (Nat.two_pow_pos s)
    rw [sc.1, hYd] at t
    rw [hYd] at sc
    refine ⟨ret_two ?_ ?_, 0, rfl⟩
    · rw [t.1]
    · rw [t.2, sc.2]

end Go.Proofs.YtbjjogbnndmmmaaDoor

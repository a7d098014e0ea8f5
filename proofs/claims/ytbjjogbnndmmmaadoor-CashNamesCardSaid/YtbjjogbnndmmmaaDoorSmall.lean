/-
  Contracts of the small functions under package amount: size, signed, signBits, roundUp.
-/
import Derived.Test.YtbjjogbnndmmmaaDoorProg
import Derived.WalkKit
import Derived.PlainAid
import Derived.Lib.Hide
namespace Go.Proofs.YtbjjogbnndmmmaaDoor
open Go.RowKit

/-- What is told of a number: it, if it fits, else 0; and OK or ErrOver. -/
def inR (n : Int) : Bool := decide (-9223372036854775808 ≤ n ∧ n ≤ 9223372036854775807)
def fitN (n : Int) : Int := if inR n then n else 0
def fitE (n : Int) : Int := if inR n then 0 else 11

theorem inR_iff (n : Int) : inR n = true ↔ (-9223372036854775808 ≤ n ∧ n ≤ 9223372036854775807) := by simp [inR]
theorem fitN_in {n : Int} (h : inR n = true) : fitN n = n := by simp [fitN, h]
theorem fitE_in {n : Int} (h : inR n = true) : fitE n = 0 := by simp [fitE, h]
theorem fitN_out {n : Int} (h : inR n = false) : fitN n = 0 := by simp [fitN, h]
theorem fitE_out {n : Int} (h : inR n = false) : fitE n = 11 := by simp [fitE, h]

def absI (a : Int) : Int := (a.natAbs : Int)

theorem absI_neg {a : Int} (h : a < 0) : absI a = -a := by unfold absI; omega
theorem absI_nonneg {a : Int} (h : 0 ≤ a) : absI a = a := by unfold absI; omega
theorem ret_int {k : IntKind} {a b : Int} (h : a = b) : Ending.returned (.int k a) = .returned (.int k b) := by rw [h]
theorem ret_two {k l : IntKind} {a b c d : Int} (h : a = b) (g : c = d) : Ending.returned (.tuple #[.int k a, .int l c]) = .returned (.tuple #[.int k b, .int l d]) := by rw [h, g]

theorem size_num (a : Int) (h0 : -9223372036854775808 ≤ a) (h : a < 0) : IntKind.u64.wrap (-(IntKind.u64.wrap a)) = absI a := by
  rw [absI_neg h, IntKind.wrap_u64, IntKind.wrap_u64]; omega

theorem size_any (a : Int) (w : World) (h0 : -9223372036854775808 ≤ a) (h1 : a ≤ 9223372036854775807) :
    Calls Tryd.prog 74 #[.int .i64 a] w fun e w' => e = .returned (.int .u64 (absI a)) ∧ w = w' := by
  by_cases h : a < 0
  · go_enter Tryd.func74, Tryd.ntmps74
    go_wp2
    go_ret
    exact ⟨ret_int (size_num a h0 h), rfl⟩
  · go_enter Tryd.func74, Tryd.ntmps74
    go_wp2
    go_ret
    exact ⟨ret_int (absI_nonneg (by omega)).symm, rfl⟩

theorem signBits_any (a : Int) (w : World) :
    Calls Tryd.prog 67 #[.int .i64 a] w fun e w' => e = .returned (.int .u64 (if a < 0 then 18446744073709551615 else 0)) ∧ w = w' := by
  by_cases h : a < 0
  · rw [if_pos h]
    go_enter Tryd.func67, Tryd.ntmps67
    go_wp2
    go_ret
    exact ⟨rfl, rfl⟩
  · rw [if_neg h]
    go_enter Tryd.func67, Tryd.ntmps67
    go_wp2
    go_ret
    exact ⟨rfl, rfl⟩

/-- The number of a size and a sign. -/
def sgn (b : Bool) (m : Int) : Int := if b then -m else m

theorem signed_any (m : Int) (b : Bool) (w : World) (h0 : 0 ≤ m) (h1 : m ≤ 18446744073709551615) :
    Calls Tryd.prog 78 #[.int .u64 m, .bool b] w fun e w' => e = .returned (.tuple #[.int .i64 (fitN (sgn b m)), .int .i64 (fitE (sgn b m))]) ∧ w = w' := by
  cases b
  · by_cases h : 9223372036854775807 < m
    · have hf : inR (sgn false m) = false := by simp [inR, sgn]; omega
      have HN := Lib.hid (fitN_out hf)
      have HE := Lib.hid (fitE_out hf)
      clear hf
      go_enter Tryd.func78, Tryd.ntmps78
      go_wp2
      go_ret2
      exact ⟨ret_two HN.out.symm HE.out.symm, rfl⟩
    · have hf : inR (sgn false m) = true := by simp [inR, sgn]; omega
      have HN := Lib.hid (fitN_in hf)
      have HE := Lib.hid (fitE_in hf)
      clear hf
      go_enter Tryd.func78, Tryd.ntmps78
      go_wp2
      go_ret2
      exact ⟨ret_two HN.out.symm HE.out.symm, rfl⟩
  · by_cases h : 9223372036854775808 < m
    · have hf : inR (sgn true m) = false := by simp [inR, sgn]; omega
      have HN := Lib.hid (fitN_out hf)
      have HE := Lib.hid (fitE_out hf)
      clear hf
      go_enter Tryd.func78, Tryd.ntmps78
      go_wp2
      go_ret2
      exact ⟨ret_two HN.out.symm HE.out.symm, rfl⟩
    · have hf : inR (sgn true m) = true := by simp [inR, sgn]; omega
      have HN := Lib.hid (fitN_in hf)
      have HE := Lib.hid (fitE_in hf)
      have HW : Hid (wrap64 (IntKind.u64.wrap (-m)) = -m) := by
        apply Lib.hid; unfold wrap64; rw [IntKind.wrap_u64]; omega
      clear hf
      go_enter Tryd.func78, Tryd.ntmps78
      go_wp2
      go_ret2
      exact ⟨ret_two (HW.out.trans HN.out.symm) HE.out.symm, rfl⟩

/-- Whether the next number is nearer, or as near and even. -/
def up (q r d : Int) : Int := if d - r < r ∨ (r = d - r ∧ q % 2 = 1) then 1 else 0

theorem roundUp_any (q r d : Int) (w : World) (hq : 0 ≤ q) (hr : 0 ≤ r) (hd : r < d) (hm : d ≤ 18446744073709551615) :
    Calls Tryd.prog 77 #[.int .u64 q, .int .u64 r, .int .u64 d] w fun e w' => e = .returned (.int .u64 (up q r d)) ∧ w = w' := by
  rcases Int.lt_trichotomy (d - r) r with h | h | h
  · have HU : Hid (up q r d = 1) := Lib.hid (by unfold up; rw [if_pos (Or.inl h)])
    go_enter Tryd.func77, Tryd.ntmps77
    go_wp2
    go_ret
    exact ⟨ret_int HU.out.symm, rfl⟩
  · have he : (r == d - r) = true := by simp; omega
    have hn : ¬ (d - r < r) := by omega
    by_cases h2 : q % 2 = 1
    · have HU : Hid (up q r d = 1) := Lib.hid (by unfold up; rw [if_pos (Or.inr ⟨by omega, h2⟩)])
      have h3 : (q % 2 == 1) = true := by simp; omega
      clear h h2
      go_enter Tryd.func77, Tryd.ntmps77
      go_wp2
      go_ret
      exact ⟨ret_int HU.out.symm, rfl⟩
    · have HU : Hid (up q r d = 0) := Lib.hid (by unfold up; rw [if_neg (by omega)])
      have h3 : (q % 2 == 1) = false := by simp; omega
      clear h h2
      go_enter Tryd.func77, Tryd.ntmps77
      go_wp2
      go_ret
      exact ⟨ret_int HU.out.symm, rfl⟩
  · have he : (r == d - r) = false := by simp; omega
    have HU : Hid (up q r d = 0) := Lib.hid (by unfold up; rw [if_neg (by omega)])
    go_enter Tryd.func77, Tryd.ntmps77
    go_wp2
    go_ret
    exact ⟨ret_int HU.out.symm, rfl⟩

end Go.Proofs.YtbjjogbnndmmmaaDoor

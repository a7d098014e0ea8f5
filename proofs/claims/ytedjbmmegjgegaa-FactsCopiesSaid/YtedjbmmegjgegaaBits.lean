/-
  Contracts of math/bits at every input: Mul64, Add64, Len64, LeadingZeros64.
-/
import Derived.Test.YtedjbmmegjgegaaSmall
import Derived.Lib.Mul64
import Derived.Lib.BitFns
import Derived.Lib.Strings
import Derived.Lib.Slices
import Derived.Lib.Small
import Derived.Lib.Walk
import Derived.Laws.Bits64b
import Derived.Laws.Externs
namespace Go.Proofs.Ytedjbmmegjgegaa
open Go.RowKit

namespace BitsA
theorem low32 (a : Nat) (ha : a < 18446744073709551616) : bits .and .u64 (a : Int) 4294967295 = ((a % 4294967296 : Nat) : Int) := by
  have h := bits_and_u64_nat a 4294967295 ha (by omega)
  rw [show a &&& 4294967295 = a % 4294967296 from Nat.and_two_pow_sub_one_eq_mod a 32] at h
  exact h
theorem high32 (a : Nat) : (a : Int) / 4294967296 = ((a / 4294967296 : Nat) : Int) := by omega
theorem prodN (a b : Nat) : (a : Int) * (b : Int) = ((a * b : Nat) : Int) := by rw [Int.natCast_mul]
theorem sumN (a b : Nat) : (a : Int) + (b : Int) = ((a + b : Nat) : Int) := by rw [Int.natCast_add]
theorem stays (a : Nat) (ha : a < 18446744073709551616) : IntKind.u64.wrap (a : Int) = (a : Int) := by rw [IntKind.wrap_u64]; omega
theorem rounds (a : Nat) : IntKind.u64.wrap (a : Int) = ((a % 18446744073709551616 : Nat) : Int) := by rw [IntKind.wrap_u64]; omega
end BitsA

namespace BitsA
theorem tab_get (k : Nat) (h : k < Lib.len8tab.size) : (Lib.len8tab[k]'h).toNat = Lib.bitLen k := by
  have hk : k < 256 := by rw [← Lib.len8tab_size]; exact h
  have e := Lib.len8_eq ⟨k, hk⟩
  have e2 : Lib.len8 (k : Int) = ((Lib.len8tab[k]'h).toNat : Int) := by
    unfold Lib.len8
    rw [show ((k : Int)).toNat = k from rfl, getElem?_pos Lib.len8tab k h]; rfl
  have e3 : (((Lib.len8tab[k]'h).toNat : Nat) : Int) = ((Lib.bitLen k : Nat) : Int) := by rw [← e2]; exact e
  exact Int.ofNat.inj e3
theorem len_zero (x : Int) (h : x.toNat < Lib.len8tab.size) : wrap64 (wrap64 ((Lib.len8tab[x.toNat]'h).toNat : Int)) = ((Lib.bitLen x.toNat : Nat) : Int) := by
  have hb := (Lib.len8tab[x.toNat]'h).toNat_lt
  have e := tab_get _ h
  rw [IntWalk.wrap64_in ((Lib.len8tab[x.toNat]'h).toNat : Int) (by omega), IntWalk.wrap64_in _ (by omega), e]
theorem len_end (s : Nat) (S x y : Int) (h : y.toNat < Lib.len8tab.size) (hS : S = (s : Int)) (hs : s ≤ 56) (hy : y.toNat = x.toNat / 2 ^ s) (hx : 2 ^ s ≤ x.toNat) (h64 : x.toNat < 2 ^ 64) :
    wrap64 (S + wrap64 ((Lib.len8tab[y.toNat]'h).toNat : Int)) = ((Lib.bitLen x.toNat : Nat) : Int) := by
  have hb := (Lib.len8tab[y.toNat]'h).toNat_lt
  have e := tab_get _ h
  have e2 := Lib.bitLen_shift s x.toNat hx h64
  rw [← hy, ← e] at e2
  rw [IntWalk.wrap64_in ((Lib.len8tab[y.toNat]'h).toNat : Int) (by omega), IntWalk.wrap64_in _ (by omega), e2]
  omega
end BitsA

set_option maxHeartbeats 4000000 in
set_option maxRecDepth 100000 in
theorem len64_any (x : Int) (w : World) (h0 : 0 ≤ x) (h1 : x ≤ 18446744073709551615) :
    Calls Try.prog 88 #[.int .u64 x] w fun e w' => e = .returned (.int .i64 (Lib.bitLen x.toNat)) ∧ w = w' := by
  have hsz := Lib.len8tab_size
  go_enter Try.func88, Try.ntmps88
  go_wp2
  all_goals (go_ret; refine ⟨ret_int ?_, rfl⟩)
  · exact BitsA.len_end 56 _ x _ _ rfl (by omega) (by omega) (by omega) (by omega)
  · exact BitsA.len_end 48 _ x _ _ rfl (by omega) (by omega) (by omega) (by omega)
  · exact BitsA.len_end 40 _ x _ _ rfl (by omega) (by omega) (by omega) (by omega)
  · exact BitsA.len_end 32 _ x _ _ rfl (by omega) (by omega) (by omega) (by omega)
  · exact BitsA.len_end 24 _ x _ _ rfl (by omega) (by omega) (by omega) (by omega)
  · exact BitsA.len_end 16 _ x _ _ rfl (by omega) (by omega) (by omega) (by omega)
  · exact BitsA.len_end 8 _ x _ _ rfl (by omega) (by omega) (by omega) (by omega)
  · exact BitsA.len_zero x _

/-- How many bits a number has. -/
theorem bitLen_bounds : ∀ (k x : Nat), x ≤ k → x ≠ 0 → x < 2 ^ 64 → 1 ≤ Lib.bitLen x ∧ 2 ^ (Lib.bitLen x - 1) ≤ x ∧ x < 2 ^ Lib.bitLen x := by
  intro k
  induction k with
  | zero => intro x h h0; omega
  | succ k ih =>
    intro x hk h0 h64
    rw [Lib.bitLen_half x h0 h64]
    by_cases h1 : x = 1
    · subst h1; refine ⟨by omega, ?_, ?_⟩ <;> decide
    · obtain ⟨a, b, c⟩ := ih (x / 2) (by omega) (by omega) (by omega)
      obtain ⟨m, hm⟩ : ∃ m, Lib.bitLen (x / 2) = m + 1 := ⟨Lib.bitLen (x / 2) - 1, by omega⟩
      rw [hm] at b c ⊢
      simp only [Nat.add_sub_cancel] at b
      refine ⟨by omega, ?_, ?_⟩
      · rw [show 1 + (m + 1) - 1 = m + 1 from by omega, Nat.pow_succ]; omega
      · rw [show 1 + (m + 1) = (m + 1) + 1 from by omega, Nat.pow_succ]; omega

/-- A number, shifted till its highest bit is the 64th. -/
theorem norm_bounds (y : Nat) (h0 : y ≠ 0) (h : y < 2 ^ 64) :
    64 - Lib.bitLen y ≤ 63 ∧ 9223372036854775808 ≤ y * 2 ^ (64 - Lib.bitLen y) ∧ y * 2 ^ (64 - Lib.bitLen y) < 18446744073709551616 := by
  obtain ⟨a, b, c⟩ := bitLen_bounds y y (Nat.le_refl _) h0 h
  have hb := Lib.bitLen_le y 64 (Nat.le_refl _) h
  generalize hn : Lib.bitLen y = n at *
  refine ⟨by omega, ?_, ?_⟩
  · have := Nat.mul_le_mul_right (2 ^ (64 - n)) b
    rw [← Nat.pow_add, show n - 1 + (64 - n) = 63 from by omega] at this
    exact this
  · have := Nat.mul_lt_mul_of_pos_right c (Nat.two_pow_pos (64 - n))
    rw [← Nat.pow_add, show n + (64 - n) = 64 from by omega] at this
    exact this

end Go.Proofs.Ytedjbmmegjgegaa

/-
  The arithmetic under a division of 128 bits by 64 bits, digit by digit (32 bits a digit): plain numbers, no program.
-/
namespace Go.Proofs.YtgeneoamngfomaaGreatDoor.DivA

/-- The digit: what a digit's guess is, once it is no less than the digit and its product is not too great. -/
theorem digit_eq (U d y q B : Nat) (hq : (U * B + d) / y ≤ q) (hy : 0 < y) (h : q * y ≤ U * B + d) : q = (U * B + d) / y := by
  have := (Nat.le_div_iff_mul_le hy).2 h
  omega

theorem guess_ge (U d y1 y0 B : Nat) (h1 : 0 < y1) (hd : d < B) : (U * B + d) / (y1 * B + y0) ≤ U / y1 := by
  have hB : 0 < B := by omega
  have hpos : 0 < y1 * B + y0 := by have := Nat.mul_pos h1 hB; omega
  rw [Nat.le_div_iff_mul_le h1]
  have hle : (U * B + d) / (y1 * B + y0) * (y1 * B + y0) ≤ U * B + d := Nat.div_mul_le_self _ _
  generalize hq : (U * B + d) / (y1 * B + y0) = q at *
  have e1 : q * (y1 * B + y0) = q * y1 * B + q * y0 := by rw [Nat.mul_add, Nat.mul_assoc]
  rw [e1] at hle
  apply Nat.le_of_lt_succ
  apply Nat.lt_of_mul_lt_mul_right (a := B)
  have e2 : (U + 1) * B = U * B + B := by rw [Nat.add_mul, Nat.one_mul]
  show q * y1 * B < (U + 1) * B
  omega

theorem digit_lt (U d y B : Nat) (hU : U < y) (hd : d < B) : (U * B + d) / y < B := by
  have hy : 0 < y := by omega
  rw [Nat.div_lt_iff_lt_mul hy]
  have : (U + 1) * B ≤ y * B := Nat.mul_le_mul_right B hU
  rw [Nat.add_mul, Nat.one_mul, ] at this
  rw [Nat.mul_comm B y]
  omega

/-- The product of a guess, by its parts. -/
theorem prod_eq (q r U y1 y0 B : Nat) (h : q * y1 + r = U) : q * (y1 * B + y0) + r * B = U * B + q * y0 := by
  subst h
  rw [Nat.mul_add, Nat.add_mul, Nat.mul_assoc]
  omega

/-- The guess stands, if its test does. -/
theorem guess_done (q r U d y1 y0 B : Nat) (h : q * y1 + r = U) (hy : 0 < y1 * B + y0) (hge : (U * B + d) / (y1 * B + y0) ≤ q) (ht : q * y0 ≤ B * r + d) :
    q = (U * B + d) / (y1 * B + y0) := by
  refine digit_eq _ _ _ _ _ hge hy ?_
  have := prod_eq q r U y1 y0 B h
  rw [Nat.mul_comm r B] at this
  omega

/-- The guess is too great, if its test falls. -/
theorem guess_down (q r U d y1 y0 B : Nat) (h : q * y1 + r = U) (hU : U < y1 * B + y0) (hd : d < B)
    (hge : (U * B + d) / (y1 * B + y0) ≤ q) (ht : B ≤ q ∨ B * r + d < q * y0) :
    0 < q ∧ (U * B + d) / (y1 * B + y0) ≤ q - 1 ∧ (q - 1) * y1 + (r + y1) = U := by
  have hlt := digit_lt U d (y1 * B + y0) B hU hd
  have hy : 0 < y1 * B + y0 := by omega
  have key : (U * B + d) / (y1 * B + y0) < q := by
    rcases ht with ht | ht
    · omega
    · rw [Nat.div_lt_iff_lt_mul hy]
      have := prod_eq q r U y1 y0 B h
      rw [Nat.mul_comm r B] at this
      omega
  clear hge hlt ht
  generalize (U * B + d) / (y1 * B + y0) = Q at *
  refine ⟨by omega, by omega, ?_⟩
  obtain ⟨p, rfl⟩ : ∃ p, q = p + 1 := ⟨q - 1, by omega⟩
  rw [Nat.add_mul] at h
  simp only [Nat.add_sub_cancel]
  omega

theorem guess_le (U y1 y0 : Nat) (h1 : 2147483648 ≤ y1) (h0 : y0 < 4294967296) (hU : U < y1 * 4294967296 + y0) : U / y1 ≤ 4294967297 := by
  apply Nat.le_of_lt_succ
  rw [Nat.div_lt_iff_lt_mul (by omega)]
  omega

theorem guess_prod (q y0 : Nat) (hq : q ≤ 4294967297) (h0 : y0 ≤ 4294967295) : q * y0 ≤ 18446744073709551615 := Nat.mul_le_mul hq h0

/-- Two digits are the whole. -/
theorem two_digits (U d1 d0 y B : Nat) (hy : 0 < y) :
    (U * B + d1) / y * B + ((U * B + d1) % y * B + d0) / y = (U * (B * B) + d1 * B + d0) / y ∧
    ((U * B + d1) % y * B + d0) % y = (U * (B * B) + d1 * B + d0) % y := by
  have h := Nat.div_add_mod (U * B + d1) y
  generalize (U * B + d1) / y = q at *
  generalize (U * B + d1) % y = r at *
  have e : U * (B * B) + d1 * B + d0 = (r * B + d0) + y * (q * B) := by
    have e1 : U * (B * B) + d1 * B = (U * B + d1) * B := by rw [Nat.add_mul, Nat.mul_assoc]
    rw [e1, ← h, Nat.add_mul, Nat.mul_assoc]
    omega
  rw [e, Nat.add_mul_div_left _ _ hy, Nat.add_mul_mod_self_left]
  exact ⟨by omega, rfl⟩

/-- Both sides times as much. -/
theorem scaled (u y k : Nat) (hk : 0 < k) : (u * k) / (y * k) = u / y ∧ (u * k) % (y * k) / k = u % y := by
  refine ⟨Nat.mul_div_mul_right _ _ hk, ?_⟩
  rw [Nat.mul_mod_mul_right, Nat.mul_div_cancel _ hk]

end Go.Proofs.YtgeneoamngfomaaGreatDoor.DivA

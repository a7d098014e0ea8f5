/-
  Package ratio: product.
-/
import Derived.Test.YtbjjogbnndmmmaaDoorRatB
namespace Go.Proofs.YtbjjogbnndmmmaaDoor
open Go.RowKit
set_option linter.unusedVariables false

theorem tdiv_bd {n g : Int} (hg : 0 < g) (n0 : -9223372036854775807 ≤ n) (n1 : n ≤ 9223372036854775807) : -9223372036854775807 ≤ n.tdiv g ∧ n.tdiv g ≤ 9223372036854775807 := by
  have h : (n.tdiv g).natAbs ≤ n.natAbs := by rw [Int.natAbs_tdiv]; exact Nat.div_le_self _ _
  omega
theorem mul_same (a b : Int) (a0 : -9223372036854775808 ≤ a) (a1 : a ≤ 9223372036854775807) (b0 : -9223372036854775808 ≤ b) (b1 : b ≤ 9223372036854775807) (w : World) :
    Calls Tryd.prog 72 #[.int .i64 a, .int .i64 b] w fun e w' => e = .returned (.tuple #[.int .i64 (fitN (a * b)), .int .i64 (fitE (a * b))]) ∧ w' = w :=
  (mul_any a b w a0 a1 b0 b1).mono fun _ _ ⟨h, g⟩ => ⟨h, g.symm⟩

theorem mul_low {na da nb db : Int} (ha : OkR na da) (hb : OkR nb db) :
    lowV (fitN (na.tdiv (Int.gcd na db : Nat) * nb.tdiv (Int.gcd nb da : Nat))) (fitN (da.tdiv (Int.gcd nb da : Nat) * db.tdiv (Int.gcd na db : Nat))) (firstE (fitE (na.tdiv (Int.gcd na db : Nat) * nb.tdiv (Int.gcd nb da : Nat))) (fitE (da.tdiv (Int.gcd nb da : Nat) * db.tdiv (Int.gcd na db : Nat)))) = fitV (rat na da * rat nb db) := by
  obtain ⟨h1, h2⟩ := mul_parts (rat na da) (rat nb db)
  rw [ha.num, hb.num, ha.denN, hb.denN] at h1 h2
  refine low_fit _ _ _ h1 ?_
  rw [h2]
  obtain ⟨A, rfl⟩ := Int.eq_ofNat_of_zero_le (show 0 ≤ da by have := ha.d0; omega)
  obtain ⟨B, rfl⟩ := Int.eq_ofNat_of_zero_le (show 0 ≤ db by have := hb.d0; omega)
  show _ = ((A / Int.gcd nb A : Nat) : Int) * ((B / Int.gcd na B : Nat) : Int)
  rw [Int.natCast_mul]; rfl

theorem low_new (num den e f : Int) (w : World) :
    Calls Tryd.prog 73 #[.int .i64 num, .int .i64 den, .slice (some ⟨w.heap.size, 0, none⟩) 2 2] (w.alloc (.cells #[.int .i64 e, .int .i64 f] 25)) fun r w' => r = .returned (lowV num den (firstE e f)) ∧ Below (w.alloc (.cells #[.int .i64 e, .int .i64 f] 25)).heap.size (w.alloc (.cells #[.int .i64 e, .int .i64 f] 25)) w' :=
  low_any num den e f w.heap.size 2 _ (by simp) (by rw [World.cell?_alloc_at _ _ _ _ rfl]; rfl) (by rw [World.cell?_alloc_at _ _ _ _ rfl]; rfl)

end Go.Proofs.YtbjjogbnndmmmaaDoor

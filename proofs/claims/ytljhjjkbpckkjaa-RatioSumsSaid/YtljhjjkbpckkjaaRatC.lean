/-
  Package ratio: product.
-/
import Derived.Test.YtljhjjkbpckkjaaRatB
namespace Go.Proofs.Ytljhjjkbpckkjaa
open Go.RowKit
set_option linter.unusedVariables false

theorem tdiv_bd {n g : Int} (hg : 0 < g) (n0 : -9223372036854775807 ≤ n) (n1 : n ≤ 9223372036854775807) : -9223372036854775807 ≤ n.tdiv g ∧ n.tdiv g ≤ 9223372036854775807 := by
  have h : (n.tdiv g).natAbs ≤ n.natAbs := by rw [Int.natAbs_tdiv]; exact Nat.div_le_self _ _
  omega
theorem mul_same (a b : Int) (a0 : -9223372036854775808 ≤ a) (a1 : a ≤ 9223372036854775807) (b0 : -9223372036854775808 ≤ b) (b1 : b ≤ 9223372036854775807) (w : World) :
    Calls Try.prog 80 #[.int .i64 a, .int .i64 b] w fun e w' => e = .returned (.tuple #[.int .i64 (fitN (a * b)), .int .i64 (fitE (a * b))]) ∧ w' = w :=
  (mul_any a b w a0 a1 b0 b1).mono fun _ _ ⟨h, g⟩ => ⟨h, g.symm⟩

theorem mul_low {na da nb db : Int} (ha : OkR na da) (hb : OkR nb db) :
    lowV (fitN (na.tdiv (Int.gcd na db : Nat) * nb.tdiv (Int.gcd nb da : Nat))) (fitN (da.tdiv (Int.gcd nb da : Nat) * db.tdiv (Int.gcd na db : Nat))) (firstE (fitE (na.tdiv (Int.gcd na db : Nat) * nb.tdiv (Int.gcd nb da : Nat))) (fitE (da.tdiv (Int.gcd nb da : Nat) * db.tdiv (Int.gcd na db : Nat)))) = fitV (rat na da * rat nb db) := by
  obtain ⟨h1, h2⟩ := mul_parts (rat na da) (rat nb db)
  rw [ha.num, hb.num, ha.denN, hb.denN] at h1 h2
  refine low_fit _ _ _ h1 ?_
  rw [h2]
  obtain ⟨A, rfl⟩ := Int.eq_ofNat_of_zero_le (show 0 ≤ da by have := ha.d0; omega)
  obtain ⟨B, rfl⟩ := Int.eq_ofNat_of_zero_le (show 0 ≤ db by have := hb.d0; omega)
  show _ = ((A / Int.gcd nb A : Nat) : Int) * ((B / Int.gcd na B : Nat) : Int)
  rw [Int.natCast_mul]; rfl

theorem low_new (num den e f : Int) (w : World) :
    Calls Try.prog 81 #[.int .i64 num, .int .i64 den, .slice (some ⟨w.heap.size, 0, none⟩) 2 2] (w.alloc (.cells #[.int .i64 e, .int .i64 f] 22)) fun r w' => r = .returned (lowV num den (firstE e f)) ∧ Below (w.alloc (.cells #[.int .i64 e, .int .i64 f] 22)).heap.size (w.alloc (.cells #[.int .i64 e, .int .i64 f] 22)) w' :=
  low_any num den e f w.heap.size 2 _ (by simp) (by rw [World.cell?_alloc_at _ _ _ _ rfl]; rfl) (by rw [World.cell?_alloc_at _ _ _ _ rfl]; rfl)

set_option maxHeartbeats 2000000 in
set_option maxRecDepth 100000 in
theorem product_any (na da nb db : Int) (w : World) (ha : OkR na da) (hb : OkR nb db) :
    Calls Try.prog 64 #[.agg #[.int .i64 na, .int .i64 da], .agg #[.int .i64 nb, .int .i64 db]] w fun e w' => e = .returned (fitV (rat na da * rat nb db)) ∧ Below w.heap.size w w' := by
  obtain ⟨da0, da1, na0, na1, _⟩ := id ha
  obtain ⟨db0, db1, nb0, nb1, _⟩ := id hb
  have q1 := gcd_le_right (n := na) db0
  have q2 := gcd_le_right (n := nb) da0
  have HL := Lib.hid (mul_low ha hb)
  generalize rat na da * rat nb db = q at HL ⊢
  have HC1 := Lib.hid (fun w => common_any na db w (by omega) (by omega) (by omega) (by omega) (by omega))
  have HC2 := Lib.hid (fun w => common_any nb da w (by omega) (by omega) (by omega) (by omega) (by omega))
  have p1 : 0 < ((Int.gcd na db : Nat) : Int) := by have := Int.gcd_pos_of_ne_zero_right na (show db ≠ 0 by omega); omega
  have p2 : 0 < ((Int.gcd nb da : Nat) : Int) := by have := Int.gcd_pos_of_ne_zero_right nb (show da ≠ 0 by omega); omega
  generalize ((Int.gcd na db : Nat) : Int) = g1 at *
  generalize ((Int.gcd nb da : Nat) : Int) = g2 at *
  obtain ⟨x1, y1⟩ := tdiv_bd p1 na0 na1
  obtain ⟨x2, y2⟩ := tdiv_bd p2 nb0 nb1
  obtain ⟨x3, y3⟩ := tdiv_bd p2 (show -9223372036854775807 ≤ da by omega) da1
  obtain ⟨x4, y4⟩ := tdiv_bd p1 (show -9223372036854775807 ≤ db by omega) db1
  have HM1 := Lib.hid (fun w => mul_same (na.tdiv g1) (nb.tdiv g2) (by omega) (by omega) (by omega) (by omega) w)
  have HM2 := Lib.hid (fun w => mul_same (da.tdiv g2) (db.tdiv g1) (by omega) (by omega) (by omega) (by omega) w)
  have w1 := IntWalk.i64_in (na.tdiv g1) (by omega)
  have w2 := IntWalk.i64_in (nb.tdiv g2) (by omega)
  have w3 := IntWalk.i64_in (da.tdiv g2) (by omega)
  have w4 := IntWalk.i64_in (db.tdiv g1) (by omega)
  have z1 : (g1 == 0) = false := by simp; omega
  have z2 : (g2 == 0) = false := by simp; omega
  clear ha hb
  go_enter Try.func64, Try.ntmps64
  go_wp2_with fail
  have HB := Lib.hid (Box2.start w na da nb db 42)
  generalize (((w.alloc (.cells #[.int .i64 na, .int .i64 da] 42)).alloc (.cells #[.int .i64 nb, .int .i64 db] 42)).alloc (.cells #[.int .i64 0, .int .i64 0] 42)) = W at HB ⊢
  obtain ⟨a0, a1, b0, b1, r0, r1, f0, f1, _, _⟩ := id HB.out
  go_quiet (first | (go_at_call 57; with_reducible refine Calls.quiet_of (HC1.out _)) | (go_at_call 57; with_reducible refine Calls.quiet_of (HC2.out _)))
  go_wp2_with fail
  have HB2 := Lib.hid (HB.out.keep (drewN_belowR W nq))
  generalize W.drewN nq = W2 at HB2 ⊢
  clear a0 a1 b0 b1 r0 r1 f0 f1 HB
  obtain ⟨a0, a1, b0, b1, r0, r1, f0, f1, _, _⟩ := id HB2.out
  go_quiet ((go_at_call 80; with_reducible refine Calls.quiet_of_same (HM1.out _)))
  go_wp2_with fail
  have HB3 := Lib.hid (HB2.out.keep (drewN_belowR W2 nq))
  generalize W2.drewN nq = W3 at HB3 ⊢
  clear a0 a1 b0 b1 r0 r1 f0 f1 HB2
  obtain ⟨a0, a1, b0, b1, r0, r1, f0, f1, _, _⟩ := id HB3.out
  go_quiet ((go_at_call 80; with_reducible refine Calls.quiet_of_same (HM2.out _)))
  go_wp2_with fail
  have HB4 := Lib.hid (HB3.out.keep (drewN_belowR W3 nq))
  clear a0 a1 b0 b1 r0 r1 f0 f1 HB3
  have HLo := Lib.hid (low_new (fitN (na.tdiv g1 * nb.tdiv g2)) (fitN (da.tdiv g2 * db.tdiv g1)) (fitE (na.tdiv g1 * nb.tdiv g2)) (fitE (da.tdiv g2 * db.tdiv g1)) (W3.drewN nq))
  rw [HL.out] at HLo
  unfold fitV tup at HLo
  refine HLo.out.mono ?_
  rintro e W5 ⟨rfl, hb5⟩
  have HB5 := Lib.hid ((HB4.out.keep (Below.alloc (Below.refl _ _) (Nat.le_refl _) _)).keep hb5)
  clear HLo hb5 HL HM1 HM2 HC1 HC2
  obtain ⟨a0, a1, b0, b1, r0, r1, f0, f1, _, _⟩ := id HB5.out
  go_wp2_with fail
  exact bodyPost_ret (v := fitV q) (by simp [results, Try.results64, go_sem, r0, r1, fitV, tup]) rfl ⟨rfl, HB5.out.done _ _⟩

end Go.Proofs.Ytljhjjkbpckkjaa

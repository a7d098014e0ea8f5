/-
  Package ratio: sum.
-/
import Derived.Test.YtbjjogbnndmmmaaDoorRatE
namespace Go.Proofs.YtbjjogbnndmmmaaDoor
open Go.RowKit
set_option linter.unusedVariables false

/-- What the sum's parts are. -/
def sumBy (na da nb db : Int) : Int := ((Int.gcd (absI (crossZ na da nb db) % crossG da db) (crossG da db) : Nat) : Int)

theorem gcd_rest (z : Int) {g : Int} (hg : 0 < g) : Int.gcd (absI z % g) g = Nat.gcd z.natAbs g.natAbs := by
  obtain ⟨G, rfl⟩ := Int.eq_ofNat_of_zero_le (show 0 ≤ g by omega)
  unfold absI
  show Nat.gcd ((((z.natAbs : Nat) : Int) % (G : Int)).natAbs) G = Nat.gcd z.natAbs G
  rw [show (((z.natAbs : Nat) : Int) % (G : Int)).natAbs = z.natAbs % G from by rw [← Int.natCast_emod, Int.natAbs_natCast]]
  rw [Nat.gcd_comm, Nat.gcd_comm z.natAbs, Nat.gcd_rec G, Nat.mod_mod, ← Nat.gcd_rec]
  
theorem sum_low {na da nb db : Int} (ha : OkR na da) (hb : OkR nb db) :
    lowV (sN ((crossZ na da nb db).tdiv (sumBy na da nb db))) (fitN (da.tdiv (crossG da db) * db.tdiv (sumBy na da nb db))) (firstE (sE ((crossZ na da nb db).tdiv (sumBy na da nb db))) (fitE (da.tdiv (crossG da db) * db.tdiv (sumBy na da nb db)))) = fitV (rat na da + rat nb db) := by
  have hg := crossG_pos (da := da) hb.d0
  have eby : sumBy na da nb db = ((Nat.gcd (crossZ na da nb db).natAbs (Int.gcd da db) : Nat) : Int) := by
    unfold sumBy
    rw [gcd_rest _ hg]; rfl
  obtain ⟨A, hA⟩ := Int.eq_ofNat_of_zero_le (show 0 ≤ da by have := ha.d0; omega)
  obtain ⟨B, hB⟩ := Int.eq_ofNat_of_zero_le (show 0 ≤ db by have := hb.d0; omega)
  have hG : (Int.gcd da db) = Nat.gcd (rat na da).den (rat nb db).den := by rw [ha.denN, hb.denN]; rfl
  have hz : crossZ na da nb db = (rat na da).num * (((rat nb db).den / Int.gcd da db : Nat) : Int) + (rat nb db).num * (((rat na da).den / Int.gcd da db : Nat) : Int) := by
    unfold crossZ crossG
    rw [ha.num, hb.num, ha.denN, hb.denN, hA, hB]
    rfl
  obtain ⟨h1, h2⟩ := add_parts (rat na da) (rat nb db) hG hz
  rw [eby]
  refine low_thr _ _ _ h1 ?_
  rw [h2, ha.denN, hb.denN]
  have d1 : Nat.gcd (crossZ na da nb db).natAbs (Int.gcd da db) ∣ B := by
    refine Nat.dvd_trans (Nat.gcd_dvd_right _ _) ?_
    have : Int.gcd da db = Nat.gcd A B := by rw [hA, hB]; rfl
    rw [this]; exact Nat.gcd_dvd_right _ _
  unfold crossG
  generalize Nat.gcd (crossZ na da nb db).natAbs (Int.gcd da db) = y at *
  generalize Int.gcd da db = G at *
  subst hA hB
  show (((A / G * B / y : Nat)) : Int) = ((A / G : Nat) : Int) * ((B / y : Nat) : Int)
  rw [← Int.natCast_mul, Nat.mul_div_assoc _ d1]

/-- The cells that sum keeps. -/
structure SumW (w wx : World) (Q : Nat) (na da nb db z g : Int) : Prop where
  box : Box2 w wx na da nb db
  c0 : wx.cell? ⟨Q, 0, none⟩ = some (.int .u64 (wH z))
  c1 : wx.cell? ⟨Q, 1, none⟩ = some (.int .u64 (wL z))
  c2 : wx.cell? ⟨Q, 2, none⟩ = some (.int .i64 g)
  lq : Q < wx.heap.size
theorem SumW.keep {w wx w1 : World} {Q : Nat} {na da nb db z g : Int} (h : SumW w wx Q na da nb db z g) (hb : Below wx.heap.size wx w1) : SumW w w1 Q na da nb db z g := by
  have hc : ∀ i, w1.cell? ⟨Q, i, none⟩ = wx.cell? ⟨Q, i, none⟩ := fun i => hb.cell (p := ⟨Q, i, none⟩) h.lq
  exact ⟨h.box.keep hb, (hc _).trans h.c0, (hc _).trans h.c1, (hc _).trans h.c2, Nat.lt_of_lt_of_le h.lq hb.size⟩
theorem SumW.start {w wx w1 : World} {na da nb db z g : Int} {e : TypeId} (h : Box2 w wx na da nb db) (hb : Below wx.heap.size wx w1) : SumW w (w1.alloc (.cells #[.int .u64 (wH z), .int .u64 (wL z), .int .i64 g] e)) w1.heap.size na da nb db z g :=
  ⟨(h.keep hb).keep (Below.alloc (Below.refl _ _) (Nat.le_refl _) _), by rw [World.cell?_alloc_at _ _ _ _ rfl]; rfl, by rw [World.cell?_alloc_at _ _ _ _ rfl]; rfl, by rw [World.cell?_alloc_at _ _ _ _ rfl]; rfl, by simp⟩

set_option maxHeartbeats 2000000 in
set_option maxRecDepth 100000 in
theorem sum_any (na da nb db : Int) (w : World) (ha : OkR na da) (hb : OkR nb db) :
    Calls Tryd.prog 50 #[.agg #[.int .i64 na, .int .i64 da], .agg #[.int .i64 nb, .int .i64 db]] w fun e w' => e = .returned (fitV (rat na da + rat nb db)) ∧ Below w.heap.size w w' := by
  obtain ⟨da0, da1, na0, na1, _⟩ := id ha
  obtain ⟨db0, db1, nb0, nb1, _⟩ := id hb
  have HL := Lib.hid (sum_low ha hb)
  generalize rat na da + rat nb db = q at HL ⊢
  have HC := Lib.hid (fun w => cross_any na da nb db w ha hb)
  have hg0 := crossG_pos (da := da) db0
  have hg1 : crossG da db ≤ db := gcd_le_right db0
  obtain ⟨zz0, zz1⟩ := crossZ_lim ha hb
  have hr0 := Int.emod_nonneg (absI (crossZ na da nb db)) (show crossG da db ≠ 0 by omega)
  have hr1 := Int.emod_lt_of_pos (absI (crossZ na da nb db)) hg0
  have hy1 : sumBy na da nb db ≤ crossG da db := gcd_le_right hg0
  have hy0 : 0 < sumBy na da nb db := by unfold sumBy; have := Int.gcd_pos_of_ne_zero_right (absI (crossZ na da nb db) % crossG da db) (show crossG da db ≠ 0 by omega); omega
  have HY := Lib.hid (fun w => common_any (absI (crossZ na da nb db) % crossG da db) (crossG da db) w (by omega) (by omega) (by omega) (by omega) (by show sumBy na da nb db ≤ _; omega))
  change Hid (∀ w, Calls _ _ _ w fun e w' => e = .returned (.int .i64 (sumBy na da nb db)) ∧ _) at HY
  generalize sumBy na da nb db = y at *
  generalize crossZ na da nb db = z at *
  generalize crossG da db = g at *
  have HRs := Lib.hid (fun b w c0 c1 => wrest_any b z g w zz0 zz1 hg0 (by omega) c0 c1)
  have HTh := Lib.hid (fun b w c0 c1 => wthr_any b z y w zz0 zz1 hy0 (by omega) c0 c1)
  generalize absI z % g = r at *
  obtain ⟨x1, y1⟩ := tdiv_bd hg0 (show -9223372036854775807 ≤ da by omega) da1
  obtain ⟨x2, y2⟩ := tdiv_bd hy0 (show -9223372036854775807 ≤ db by omega) db1
  have HM := Lib.hid (fun w => mul_same (da.tdiv g) (db.tdiv y) (by omega) (by omega) (by omega) (by omega) w)
  have w1 := IntWalk.i64_in (da.tdiv g) (by omega)
  have w2 := IntWalk.i64_in (db.tdiv y) (by omega)
  have zb : (g == 0) = false := by simp; omega
  have yb : (y == 0) = false := by simp; omega
  clear ha hb zz0 zz1
  go_enter Tryd.func50, Tryd.ntmps50
  go_wp2_with fail
  have HB := Lib.hid (Box2.start w na da nb db 23)
  generalize (((w.alloc (.cells #[.int .i64 na, .int .i64 da] 23)).alloc (.cells #[.int .i64 nb, .int .i64 db] 23)).alloc (.cells #[.int .i64 0, .int .i64 0] 23)) = W at HB ⊢
  refine (HC.out _).mono ?_
  rintro e w1 ⟨rfl, hb1⟩
  have HS := Lib.hid (SumW.start (z := z) (g := g) (e := 108) HB.out hb1)
  clear hb1 HB HC
  go_wp2_with fail
  generalize w1.heap.size = Q at HS ⊢
  generalize w1.alloc (.cells #[.int .u64 (wH z), .int .u64 (wL z), .int .i64 g] 108) = W1 at HS ⊢
  obtain ⟨⟨a0, a1, b0, b1, r0, r1, f0, f1, _, _⟩, c0, c1, c2, _⟩ := id HS.out
  have HRn := Lib.hid (fun n => HRs.out Q (W1.drewN n) c0 c1)
  go_quiet (first | (go_at_call 70; with_reducible refine Calls.quiet_of (HRn.out _)) | (go_at_call 52; with_reducible refine Calls.quiet_of (HY.out _)))
  have HS2 := Lib.hid (HS.out.keep (drewN_belowR W1 nq))
  generalize W1.drewN nq = W2 at HS2 ⊢
  clear a0 a1 b0 b1 r0 r1 f0 f1 c0 c1 c2 HS HRn HRs
  obtain ⟨⟨a0, a1, b0, b1, r0, r1, f0, f1, _, _⟩, c0, c1, c2, _⟩ := id HS2.out
  go_wp2_with fail
  refine (HTh.out Q W2 c0 c1).mono ?_
  rintro e w' ⟨rfl, m, rfl⟩
  have HS3 := Lib.hid (HS2.out.keep (drewN_belowR W2 m))
  generalize W2.drewN m = W3 at HS3 ⊢
  clear a0 a1 b0 b1 r0 r1 f0 f1 c0 c1 c2 HS2 HTh
  obtain ⟨⟨a0, a1, b0, b1, r0, r1, f0, f1, _, _⟩, c0, c1, c2, _⟩ := id HS3.out
  go_wp2_with fail
  go_quiet ((go_at_call 72; with_reducible refine Calls.quiet_of_same (HM.out _)))
  have HS4 := Lib.hid (HS3.out.keep (drewN_belowR W3 nq))
  clear a0 a1 b0 b1 r0 r1 f0 f1 c0 c1 c2 HS3
  have HLo := Lib.hid (low_new (sN (z.tdiv y)) (fitN (da.tdiv g * db.tdiv y)) (sE (z.tdiv y)) (fitE (da.tdiv g * db.tdiv y)) (W3.drewN nq))
  rw [HL.out] at HLo
  unfold fitV tup at HLo
  go_wp2_with fail
  refine HLo.out.mono ?_
  rintro e W5 ⟨rfl, hb5⟩
  have HB5 := Lib.hid ((HS4.out.box.keep (Below.alloc (Below.refl _ _) (Nat.le_refl _) _)).keep hb5)
  clear HLo hb5 HL HM HY HS4
  obtain ⟨a0, a1, b0, b1, r0, r1, f0, f1, _, _⟩ := id HB5.out
  go_wp2_with fail
  exact bodyPost_ret (v := fitV q) (by simp [results, Tryd.results50, go_sem, r0, r1, fitV, tup]) rfl ⟨rfl, HB5.out.done _ _⟩

end Go.Proofs.YtbjjogbnndmmmaaDoor

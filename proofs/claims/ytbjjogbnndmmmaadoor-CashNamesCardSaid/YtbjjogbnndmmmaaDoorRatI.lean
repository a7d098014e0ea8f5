/-
  Package ratio: Add, Sub, Mul, Div.
-/
import Derived.Test.YtbjjogbnndmmmaaDoorRatH
namespace Go.Proofs.YtbjjogbnndmmmaaDoor
open Go.RowKit
set_option linter.unusedVariables false

/-- What is told of two ratios: an error, or the number. -/
def opN (E : Int) (q : Rat) : Int := if E = 0 then rN q else 0
def opD (E : Int) (q : Rat) : Int := if E = 0 then rD q else 0
def opE (E : Int) (q : Rat) : Int := if E = 0 then rE q else E
def bothE (na da nb db : Int) : Int := firstE (chkE na da) (chkE nb db)
theorem bothE_ok {na da nb db : Int} (h : bothE na da nb db = 0) (na0 : -9223372036854775808 ≤ na) (na1 : na ≤ 9223372036854775807) (da1 : da ≤ 9223372036854775807) (nb0 : -9223372036854775808 ≤ nb) (nb1 : nb ≤ 9223372036854775807) (db1 : db ≤ 9223372036854775807) : OkR na da ∧ OkR nb db := by
  unfold bothE firstE at h
  by_cases g : chkE na da = 0
  · rw [if_pos g] at h
    exact ⟨chkE_zero g na0 na1 da1, chkE_zero h nb0 nb1 db1⟩
  · rw [if_neg g] at h; exact absurd h g
theorem op_ok {E : Int} (h : E = 0) (q : Rat) : tup (opN E q) (opD E q) (opE E q) = fitV q := by unfold opN opD opE fitV; rw [if_pos h, if_pos h, if_pos h]
theorem op_err {E : Int} (h : E ≠ 0) (q : Rat) : opN E q = 0 ∧ opD E q = 0 ∧ opE E q = E := by unfold opN opD opE; rw [if_neg h, if_neg h, if_neg h]; exact ⟨rfl, rfl, rfl⟩

set_option maxHeartbeats 2000000 in
set_option maxRecDepth 100000 in
theorem addr_any (na da nb db : Int) (w : World) (na0 : -9223372036854775808 ≤ na) (na1 : na ≤ 9223372036854775807) (da0 : -9223372036854775808 ≤ da) (da1 : da ≤ 9223372036854775807)
    (nb0 : -9223372036854775808 ≤ nb) (nb1 : nb ≤ 9223372036854775807) (db0 : -9223372036854775808 ≤ db) (db1 : db ≤ 9223372036854775807) :
    Calls Tryd.prog 27 #[.agg #[.int .i64 na, .int .i64 da], .agg #[.int .i64 nb, .int .i64 db]] w fun e w' => e = .returned (.tuple #[.agg #[.int .i64 (opN (bothE na da nb db) (rat na da + rat nb db)), .int .i64 (opD (bothE na da nb db) (rat na da + rat nb db))], .int .i64 (opE (bothE na da nb db) (rat na da + rat nb db))]) ∧ Below w.heap.size w w' := by
  have hmf : ∀ (fn : Fn) (first cap : Array Value) (w : World), (Instr.makeFunc fn first cap).run Tryd.prog w = .ok (.func fn first cap) w := fun _ _ _ _ => rfl
  have HBo := Lib.hid (fun (W : World) (HB : Box2 w W na da nb db) => both_any na da nb db (opN (bothE na da nb db) (rat na da + rat nb db)) (opD (bothE na da nb db) (rat na da + rat nb db)) (opE (bothE na da nb db) (rat na da + rat nb db)) 49 #[.pointer (some ⟨w.heap.size, 0, none⟩), .pointer (some ⟨w.heap.size + 1, 0, none⟩)] W na0 na1 da0 da1 nb0 nb1 db0 db1
    (fun hz W' hW => by
      have hz' : bothE na da nb db = 0 := hz
      obtain ⟨ha, hb⟩ := bothE_ok hz' na0 na1 da1 nb0 nb1 db1
      have HB' := HB.keep hW
      rw [op_ok hz' (rat na da + rat nb db)]; exact add1_any _ _ na da nb db W' ha hb (by have := HB'.sz; omega) (by have := HB'.sz; omega) HB'.a0 HB'.a1 HB'.b0 HB'.b1)
    (fun W' => by rfl)
    (fun hz => by exact op_err hz (rat na da + rat nb db)))
  unfold tup at HBo
  generalize (opN (bothE na da nb db) (rat na da + rat nb db)) = x at *
  generalize (opD (bothE na da nb db) (rat na da + rat nb db)) = y at *
  generalize (opE (bothE na da nb db) (rat na da + rat nb db)) = c at *
  try clear hn
  go_enter Tryd.func27, Tryd.ntmps27
  go_wp2_with fail
  refine (HBo.out _ (Box2.start w na da nb db 23)).mono ?_
  rintro e w1 ⟨rfl, hb1⟩
  have HB := Lib.hid ((Box2.start w na da nb db 23).keep hb1)
  clear hb1 HBo
  obtain ⟨a0, a1, b0, b1, r0, r1, f0, f1, _, _⟩ := id HB.out
  go_wp2_with fail
  exact bodyPost_ret (v := .tuple #[.agg #[.int .i64 x, .int .i64 y], .int .i64 c]) (by simp [results, Tryd.results27, go_sem, r0, r1]) rfl ⟨rfl, HB.out.done _ _⟩

end Go.Proofs.YtbjjogbnndmmmaaDoor

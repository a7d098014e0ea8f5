/-
  chattellaw02.RatioSums's walk where a ratio may not be.
-/
import Derived.Test.YtljhjjkbpckkjaaRefR
import Derived.Test.YtljhjjkbpckkjaaKeepC
namespace Go.Proofs.Ytljhjjkbpckkjaa
open Go.RowKit
set_option linter.unusedVariables false

theorem Keeps.pair (w : World) (na da nb db : Int) (e : TypeId) : Keeps w ((w.alloc (.cells #[.int .i64 na, .int .i64 da] e)).alloc (.cells #[.int .i64 nb, .int .i64 db] e)) [(w.heap.size + 1, nb, db), (w.heap.size, na, da)] := by
  have h := ((Keeps.nil w).push na da e).push nb db e
  have z1 : (w.alloc (.cells #[.int .i64 na, .int .i64 da] e)).heap.size = w.heap.size + 1 := by simp
  rw [z1] at h
  exact h
/-- What the reference's Check answers. -/
def CR (n d e : Int) : Prop := ∀ w, Calls Try.prog 23 #[.agg #[.int .i64 n, .int .i64 d]] w fun r w' => r = .returned (.int .i64 e) ∧ Below w.heap.size w w'

set_option maxHeartbeats 8000000 in
set_option maxRecDepth 100000 in
theorem sums_first (na da nb db E : Int) (w : World) (he : E ≠ 0) (hs : RC 27 na da nb db 0 0 E) (hd : RC 28 na da nb db 0 0 E) (hp : RC 29 na da nb db 0 0 E) (hq : RC 30 na da nb db 0 0 E) (hca : CR na da E) :
    Calls Try.prog 6 #[.agg #[.int .i64 na, .int .i64 da], .agg #[.int .i64 nb, .int .i64 db]] w fun e w' => e = .returned (.bool true) ∧ Below w.heap.size w w' := by
  have Hhs := Lib.hid hs
  have Hhd := Lib.hid hd
  have Hhp := Lib.hid hp
  have Hhq := Lib.hid hq
  have Hhca := Lib.hid hca
  have q1 : (E != 0) = true := by simpa using he
  have q2 : (E == 0) = false := by simpa using he
  clear he hs hd hp hq hca
  go_enter Try.func6, Try.ntmps6
  go_wp2_with fail
  refine (Hhs.out _).mono ?_
  rintro r w1 ⟨rfl, hb⟩
  have K1 := Lib.hid ((Keeps.pair w na da nb db 42).keep hb)
  clear hb
  obtain ⟨l0, c0a, c0b⟩ := K1.out.get 0 rfl
  obtain ⟨l1, c1a, c1b⟩ := K1.out.get 1 rfl
  go_wp2_with fail
  refine (Hhd.out _).mono ?_
  rintro r w2 ⟨rfl, hb⟩
  have K2 := Lib.hid ((K1.out.push 0 0 42).keep hb)
  clear hb
  clear l0 c0a c0b l1 c1a c1b
  obtain ⟨l0, c0a, c0b⟩ := K2.out.get 0 rfl
  obtain ⟨l1, c1a, c1b⟩ := K2.out.get 1 rfl
  obtain ⟨l2, c2a, c2b⟩ := K2.out.get 2 rfl
  go_wp2_with fail
  refine (Hhp.out _).mono ?_
  rintro r w3 ⟨rfl, hb⟩
  have K3 := Lib.hid ((K2.out.push 0 0 42).keep hb)
  clear hb
  clear l0 c0a c0b l1 c1a c1b l2 c2a c2b
  obtain ⟨l0, c0a, c0b⟩ := K3.out.get 0 rfl
  obtain ⟨l1, c1a, c1b⟩ := K3.out.get 1 rfl
  obtain ⟨l2, c2a, c2b⟩ := K3.out.get 2 rfl
  obtain ⟨l3, c3a, c3b⟩ := K3.out.get 3 rfl
  go_wp2_with fail
  refine (Hhq.out _).mono ?_
  rintro r w4 ⟨rfl, hb⟩
  have K4 := Lib.hid ((K3.out.push 0 0 42).keep hb)
  clear hb
  clear l0 c0a c0b l1 c1a c1b l2 c2a c2b l3 c3a c3b
  obtain ⟨l0, c0a, c0b⟩ := K4.out.get 0 rfl
  obtain ⟨l1, c1a, c1b⟩ := K4.out.get 1 rfl
  obtain ⟨l2, c2a, c2b⟩ := K4.out.get 2 rfl
  obtain ⟨l3, c3a, c3b⟩ := K4.out.get 3 rfl
  obtain ⟨l4, c4a, c4b⟩ := K4.out.get 4 rfl
  go_wp2_with fail
  refine (Hhca.out _).mono ?_
  rintro r w5 ⟨rfl, hb⟩
  have K5 := Lib.hid ((K4.out.push 0 0 42).keep hb)
  clear hb
  clear l0 c0a c0b l1 c1a c1b l2 c2a c2b l3 c3a c3b l4 c4a c4b
  obtain ⟨l0, c0a, c0b⟩ := K5.out.get 0 rfl
  obtain ⟨l1, c1a, c1b⟩ := K5.out.get 1 rfl
  obtain ⟨l2, c2a, c2b⟩ := K5.out.get 2 rfl
  obtain ⟨l3, c3a, c3b⟩ := K5.out.get 3 rfl
  obtain ⟨l4, c4a, c4b⟩ := K5.out.get 4 rfl
  obtain ⟨l5, c5a, c5b⟩ := K5.out.get 5 rfl
  go_wp2_with fail
  refine (awakeR_any _).mono ?_
  rintro r w' ⟨rfl, hb⟩
  have KX := Lib.hid ((K5.out.push 0 0 42).keep hb)
  clear hb
  go_wp2
  go_ret
  exact ⟨rfl, KX.out.bel⟩

set_option maxHeartbeats 8000000 in
set_option maxRecDepth 100000 in
theorem sums_second (na da nb db E : Int) (w : World) (he : E ≠ 0) (hs : RC 27 na da nb db 0 0 E) (hd : RC 28 na da nb db 0 0 E) (hp : RC 29 na da nb db 0 0 E) (hq : RC 30 na da nb db 0 0 E) (hca : CR na da 0) (hcb : CR nb db E) :
    Calls Try.prog 6 #[.agg #[.int .i64 na, .int .i64 da], .agg #[.int .i64 nb, .int .i64 db]] w fun e w' => e = .returned (.bool true) ∧ Below w.heap.size w w' := by
  have Hhs := Lib.hid hs
  have Hhd := Lib.hid hd
  have Hhp := Lib.hid hp
  have Hhq := Lib.hid hq
  have Hhca := Lib.hid hca
  have Hhcb := Lib.hid hcb
  have q1 : (E != 0) = true := by simpa using he
  have q2 : (E == 0) = false := by simpa using he
  clear he hs hd hp hq hca hcb
  go_enter Try.func6, Try.ntmps6
  go_wp2_with fail
  refine (Hhs.out _).mono ?_
  rintro r w1 ⟨rfl, hb⟩
  have K1 := Lib.hid ((Keeps.pair w na da nb db 42).keep hb)
  clear hb
  obtain ⟨l0, c0a, c0b⟩ := K1.out.get 0 rfl
  obtain ⟨l1, c1a, c1b⟩ := K1.out.get 1 rfl
  go_wp2_with fail
  refine (Hhd.out _).mono ?_
  rintro r w2 ⟨rfl, hb⟩
  have K2 := Lib.hid ((K1.out.push 0 0 42).keep hb)
  clear hb
  clear l0 c0a c0b l1 c1a c1b
  obtain ⟨l0, c0a, c0b⟩ := K2.out.get 0 rfl
  obtain ⟨l1, c1a, c1b⟩ := K2.out.get 1 rfl
  obtain ⟨l2, c2a, c2b⟩ := K2.out.get 2 rfl
  go_wp2_with fail
  refine (Hhp.out _).mono ?_
  rintro r w3 ⟨rfl, hb⟩
  have K3 := Lib.hid ((K2.out.push 0 0 42).keep hb)
  clear hb
  clear l0 c0a c0b l1 c1a c1b l2 c2a c2b
  obtain ⟨l0, c0a, c0b⟩ := K3.out.get 0 rfl
  obtain ⟨l1, c1a, c1b⟩ := K3.out.get 1 rfl
  obtain ⟨l2, c2a, c2b⟩ := K3.out.get 2 rfl
  obtain ⟨l3, c3a, c3b⟩ := K3.out.get 3 rfl
  go_wp2_with fail
  refine (Hhq.out _).mono ?_
  rintro r w4 ⟨rfl, hb⟩
  have K4 := Lib.hid ((K3.out.push 0 0 42).keep hb)
  clear hb
  clear l0 c0a c0b l1 c1a c1b l2 c2a c2b l3 c3a c3b
  obtain ⟨l0, c0a, c0b⟩ := K4.out.get 0 rfl
  obtain ⟨l1, c1a, c1b⟩ := K4.out.get 1 rfl
  obtain ⟨l2, c2a, c2b⟩ := K4.out.get 2 rfl
  obtain ⟨l3, c3a, c3b⟩ := K4.out.get 3 rfl
  obtain ⟨l4, c4a, c4b⟩ := K4.out.get 4 rfl
  go_wp2_with fail
  refine (Hhca.out _).mono ?_
  rintro r w5 ⟨rfl, hb⟩
  have K5 := Lib.hid ((K4.out.push 0 0 42).keep hb)
  clear hb
  clear l0 c0a c0b l1 c1a c1b l2 c2a c2b l3 c3a c3b l4 c4a c4b
  obtain ⟨l0, c0a, c0b⟩ := K5.out.get 0 rfl
  obtain ⟨l1, c1a, c1b⟩ := K5.out.get 1 rfl
  obtain ⟨l2, c2a, c2b⟩ := K5.out.get 2 rfl
  obtain ⟨l3, c3a, c3b⟩ := K5.out.get 3 rfl
  obtain ⟨l4, c4a, c4b⟩ := K5.out.get 4 rfl
  obtain ⟨l5, c5a, c5b⟩ := K5.out.get 5 rfl
  go_wp2_with fail
  refine (Hhcb.out _).mono ?_
  rintro r w6 ⟨rfl, hb⟩
  have K6 := Lib.hid (K5.out.keep hb)
  clear hb
  clear l0 c0a c0b l1 c1a c1b l2 c2a c2b l3 c3a c3b l4 c4a c4b l5 c5a c5b
  obtain ⟨l0, c0a, c0b⟩ := K6.out.get 0 rfl
  obtain ⟨l1, c1a, c1b⟩ := K6.out.get 1 rfl
  obtain ⟨l2, c2a, c2b⟩ := K6.out.get 2 rfl
  obtain ⟨l3, c3a, c3b⟩ := K6.out.get 3 rfl
  obtain ⟨l4, c4a, c4b⟩ := K6.out.get 4 rfl
  obtain ⟨l5, c5a, c5b⟩ := K6.out.get 5 rfl
  go_wp2_with fail
  refine (awakeR_any _).mono ?_
  rintro r w' ⟨rfl, hb⟩
  have KX := Lib.hid ((K6.out.push 0 0 42).keep hb)
  clear hb
  go_wp2
  go_ret
  exact ⟨rfl, KX.out.bel⟩

end Go.Proofs.Ytljhjjkbpckkjaa

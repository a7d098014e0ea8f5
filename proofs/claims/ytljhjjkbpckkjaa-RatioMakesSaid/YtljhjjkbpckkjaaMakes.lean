/-
  chattellaw02.RatioMakes's walk.
-/
import Derived.Test.YtljhjjkbpckkjaaRefR
import Derived.Test.YtljhjjkbpckkjaaKeepC
namespace Go.Proofs.Ytljhjjkbpckkjaa
open Go.RowKit
set_option linter.unusedVariables false

set_option maxHeartbeats 8000000 in
set_option maxRecDepth 100000 in
theorem makes_core (rn rd n d x y e ce : Int) (w : World) (ho : ∀ w, Calls Try.prog 21 #[.int .i64 n, .int .i64 d] w fun r w' => r = .returned (.tuple #[.agg #[.int .i64 x, .int .i64 y], .int .i64 e]) ∧ Below w.heap.size w w')
    (hc : CH rn rd ce) (hr : ∀ w, Calls Try.prog 23 #[.agg #[.int .i64 rn, .int .i64 rd]] w fun r w' => r = .returned (.int .i64 ce) ∧ Below w.heap.size w w')
    (hz : d = 0 → x = 0 ∧ y = 0 ∧ e = 12)
    (hq : d ≠ 0 → (∀ w, Calls Try.prog 26 #[.agg #[.int .i64 n, .int .i64 d]] w fun e w' => (∃ v, e = .returned v ∧ BigQ w' v n d) ∧ Below w.heap.size w w') ∧ ∀ v w, BigQ w v n d → Calls Try.prog 25 #[v] w fun r w' => r = .returned (.tuple #[.agg #[.int .i64 x, .int .i64 y], .int .i64 e]) ∧ Below w.heap.size w w') :
    Calls Try.prog 5 #[.agg #[.int .i64 rn, .int .i64 rd], .int .i64 n, .int .i64 d] w fun e w' => e = .returned (.bool true) ∧ Below w.heap.size w w' := by
  unfold CH at hc
  have HO := Lib.hid ho
  have HC := Lib.hid hc
  have HR := Lib.hid hr
  have HZ := Lib.hid hz
  have HQ := Lib.hid hq
  clear ho hc hr hz hq
  go_enter Try.func5, Try.ntmps5
  go_wp2_with fail
  refine (HO.out _).mono ?_
  rintro r w1 ⟨rfl, hb1⟩
  have K1 := Lib.hid (((((Keeps.nil w).push rn rd 42).keep hb1)).push x y 42)
  clear hb1
  go_wp2_with fail
  generalize w1.alloc (.cells #[.int .i64 x, .int .i64 y] 42) = W at K1 ⊢
  obtain ⟨_, a0, a1⟩ := K1.out.get 1 rfl
  go_cut [21] (fun t wx => t = .bool false ∧ Keeps w wx [(w1.heap.size, x, y), (w.heap.size, rn, rd)])
  case first =>
    go_region_held3 (fun w' => w'.cell? ⟨w.heap.size, 0, none⟩ = some (.int .i64 rn) ∧ w'.cell? ⟨w.heap.size, 1, none⟩ = some (.int .i64 rd)) (first | go_keep | exact ⟨a0', a1'⟩ | exact ⟨a0'', a1''⟩)
      (first | (go_at_call 22; (with_reducible refine (HC.out _).mono ?_); rintro r w2 ⟨rfl, hb2⟩; have K2 := Lib.hid (K1.out.keep (drew_belowR hb2)); obtain ⟨_, a0', a1'⟩ := K2.out.get 1 rfl; clear hb2) | (go_at_call 23; (with_reducible refine (HR.out _).mono ?_); rintro r w3 ⟨rfl, hb3⟩; have K3 := Lib.hid (K2.out.keep hb3); obtain ⟨_, a0'', a1''⟩ := K3.out.get 1 rfl; clear hb3))
    go_wp2
    go_meet
    exact ⟨rfl, K3.out⟩
  case rest =>
    obtain ⟨rfl, hK⟩ := hcut
    have K4 := Lib.hid hK
    clear hK a0 a1 K1
    obtain ⟨l0, b0, b1⟩ := K4.out.get 0 rfl
    by_cases hd : d = 0
    · obtain ⟨e1, e2, e3⟩ := HZ.out hd
      subst hd; subst e1; subst e2; subst e3
      go_wp2_with fail
      refine (awakeR_any _).mono ?_
      rintro r w2 ⟨rfl, hb⟩
      have K5 := Lib.hid (K4.out.keep hb)
      clear hb
      go_wp2
      go_ret
      exact ⟨rfl, K5.out.bel⟩
    · obtain ⟨hq1, hq2⟩ := HQ.out hd
      have HQ1 := Lib.hid hq1
      have HQ2 := Lib.hid hq2
      have hz : (d == 0) = false := by simpa using hd
      clear hq1 hq2 hd
      go_wp2_with fail
      refine (HQ1.out _).mono ?_
      rintro r w2 ⟨⟨v, rfl, hv⟩, hb⟩
      have K5 := Lib.hid (K4.out.keep hb)
      have HV := Lib.hid hv
      clear hb hv l0 b0 b1
      go_wp2_with fail
      refine (HQ2.out _ _ HV.out).mono ?_
      rintro r w3 ⟨rfl, hb⟩
      have K6 := Lib.hid (K5.out.keep hb)
      clear hb HV K4 K5
      obtain ⟨l0, b0, b1⟩ := K6.out.get 0 rfl
      go_wp2_with fail
      refine (awakeR_any _).mono ?_
      rintro r w4 ⟨rfl, hb⟩
      have K7 := Lib.hid ((K6.out.push x y 42).keep hb)
      clear hb
      go_wp2
      go_ret
      exact ⟨rfl, K7.out.bel⟩

end Go.Proofs.Ytljhjjkbpckkjaa

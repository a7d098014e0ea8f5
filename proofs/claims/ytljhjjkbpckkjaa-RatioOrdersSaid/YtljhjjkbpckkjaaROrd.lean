/-
  chattellaw02.RatioOrders's walk.
-/
import Derived.Test.YtljhjjkbpckkjaaRefU
import Derived.Test.YtljhjjkbpckkjaaRefR
import Derived.Test.YtljhjjkbpckkjaaKeepC
namespace Go.Proofs.Ytljhjjkbpckkjaa
open Go.RowKit
set_option linter.unusedVariables false

theorem Keeps.two (w : World) (na da nb db : Int) (e : TypeId) : Keeps w ((w.alloc (.cells #[.int .i64 na, .int .i64 da] e)).alloc (.cells #[.int .i64 nb, .int .i64 db] e)) [(w.heap.size + 1, nb, db), (w.heap.size, na, da)] := by
  have h := ((Keeps.nil w).push na da e).push nb db e
  have z1 : (w.alloc (.cells #[.int .i64 na, .int .i64 da] e)).heap.size = w.heap.size + 1 := by simp
  rw [z1] at h
  exact h

/-- What the law's first calls answer. -/
structure OrdA (na da nb db x e m1 m2 f n g ea : Int) : Prop where
  cmp : ∀ w, Calls Try.prog 35 #[.agg #[.int .i64 na, .int .i64 da], .agg #[.int .i64 nb, .int .i64 db]] w fun r w' => r = .returned (.tuple #[.int .i64 x, .int .i64 e]) ∧ Below w.heap.size w w'
  neg : ∀ w, Calls Try.prog 36 #[.agg #[.int .i64 na, .int .i64 da]] w fun r w' => r = .returned (.tuple #[.agg #[.int .i64 m1, .int .i64 m2], .int .i64 f]) ∧ Below w.heap.size w w'
  rnd : ∀ w, Calls Try.prog 37 #[.agg #[.int .i64 na, .int .i64 da]] w fun r w' => r = .returned (.tuple #[.int .i64 n, .int .i64 g]) ∧ Below w.heap.size w w'
  chk : ∀ w, Calls Try.prog 23 #[.agg #[.int .i64 na, .int .i64 da]] w fun r w' => r = .returned (.int .i64 ea) ∧ Below w.heap.size w w'

set_option maxHeartbeats 8000000 in
set_option maxRecDepth 100000 in
theorem ord_err (na da nb db ea : Int) (w : World) (h : OrdA na da nb db 0 ea 0 0 ea 0 ea ea) (he : ea ≠ 0) :
    Calls Try.prog 7 #[.agg #[.int .i64 na, .int .i64 da], .agg #[.int .i64 nb, .int .i64 db]] w fun e w' => e = .returned (.bool true) ∧ Below w.heap.size w w' := by
  have H1 := Lib.hid h.cmp
  have H2 := Lib.hid h.neg
  have H3 := Lib.hid h.rnd
  have H4 := Lib.hid h.chk
  have q1 : (ea != 0) = true := by simpa using he
  have q2 : (ea == 0) = false := by simpa using he
  clear h he
  go_enter Try.func7, Try.ntmps7
  go_wp2_with fail
  refine (H1.out _).mono ?_
  rintro r w1 ⟨rfl, hb⟩
  have K1 := Lib.hid ((Keeps.two w na da nb db 42).keep hb)
  clear hb
  obtain ⟨l0, a0, a1⟩ := K1.out.get 1 rfl
  go_wp2_with fail
  refine (H2.out _).mono ?_
  rintro r w2 ⟨rfl, hb⟩
  have K2 := Lib.hid (K1.out.keep hb)
  clear hb l0 a0 a1
  obtain ⟨l0, a0, a1⟩ := K2.out.get 1 rfl
  go_wp2_with fail
  refine (H3.out _).mono ?_
  rintro r w3 ⟨rfl, hb⟩
  have K3 := Lib.hid ((K2.out.push 0 0 42).keep hb)
  clear hb l0 a0 a1
  obtain ⟨l0, a0, a1⟩ := K3.out.get 2 rfl
  go_wp2_with fail
  refine (H4.out _).mono ?_
  rintro r w4 ⟨rfl, hb⟩
  have K4 := Lib.hid (K3.out.keep hb)
  clear hb l0 a0 a1
  obtain ⟨l0, a0, a1⟩ := K4.out.get 0 rfl
  go_wp2_with fail
  refine (awakeR_any _).mono ?_
  rintro r w5 ⟨rfl, hb⟩
  have K5 := Lib.hid (K4.out.keep hb)
  clear hb
  go_wp2
  go_ret
  exact ⟨rfl, K5.out.bel⟩

set_option maxHeartbeats 8000000 in
set_option maxRecDepth 100000 in
theorem ord_ok (na da nb db x e n eb : Int) (w : World) (h : OrdA na da nb db x e (-na) da 0 n 0 0) (n0 : -9223372036854775807 ≤ na) (n1 : na ≤ 9223372036854775807)
    (hon : ∀ w, Calls Try.prog 15 #[.int .i64 na] w fun e w' => (∃ v, e = .returned v ∧ BigV w' v na) ∧ Below w.heap.size w w')
    (hod : ∀ w, Calls Try.prog 15 #[.int .i64 da] w fun e w' => (∃ v, e = .returned v ∧ BigV w' v da) ∧ Below w.heap.size w w')
    (hnr : ∀ v v' w, BigV w v na → BigV w v' da → Calls Try.prog 13 #[v, v'] w fun e w' => (∃ v, e = .returned v ∧ BigV w' v n) ∧ Below w.heap.size w w')
    (hin : ∀ v w, BigV w v n → Calls Try.prog 17 #[v] w fun r w' => r = .returned (.tuple #[.int .i64 n, .bool true]) ∧ Below w.heap.size w w')
    (hcb : ∀ w, Calls Try.prog 23 #[.agg #[.int .i64 nb, .int .i64 db]] w fun r w' => r = .returned (.int .i64 eb) ∧ Below w.heap.size w w')
    (h1 : eb ≠ 0 → x = 0 ∧ e = eb)
    (h2 : eb = 0 → e = 0 ∧ (∀ w, Calls Try.prog 26 #[.agg #[.int .i64 na, .int .i64 da]] w fun e w' => (∃ v, e = .returned v ∧ BigQ w' v na da) ∧ Below w.heap.size w w') ∧ (∀ w, Calls Try.prog 26 #[.agg #[.int .i64 nb, .int .i64 db]] w fun e w' => (∃ v, e = .returned v ∧ BigQ w' v nb db) ∧ Below w.heap.size w w') ∧
      ∀ v v' w, BigQ w v na da → BigQ w v' nb db → Calls Try.prog 38 #[v, v'] w fun r w' => r = .returned (.int .i64 x) ∧ Below w.heap.size w w') :
    Calls Try.prog 7 #[.agg #[.int .i64 na, .int .i64 da], .agg #[.int .i64 nb, .int .i64 db]] w fun e w' => e = .returned (.bool true) ∧ Below w.heap.size w w' := by
  have H1 := Lib.hid h.cmp
  have H2 := Lib.hid h.neg
  have H3 := Lib.hid h.rnd
  have H4 := Lib.hid h.chk
  have HOn := Lib.hid hon
  have HOd := Lib.hid hod
  have HNr := Lib.hid hnr
  have HIn := Lib.hid hin
  have HCb := Lib.hid hcb
  have HH1 := Lib.hid h1
  have HH2 := Lib.hid h2
  clear h hon hod hnr hin hcb h1 h2
  go_enter Try.func7, Try.ntmps7
  go_wp2_with fail
  refine (H1.out _).mono ?_
  rintro r w1 ⟨rfl, hb⟩
  have K1 := Lib.hid ((Keeps.two w na da nb db 42).keep hb)
  clear hb
  obtain ⟨l0, a0, a1⟩ := K1.out.get 1 rfl
  go_wp2_with fail
  refine (H2.out _).mono ?_
  rintro r w2 ⟨rfl, hb⟩
  have K2 := Lib.hid (K1.out.keep hb)
  clear hb l0 a0 a1
  obtain ⟨l0, a0, a1⟩ := K2.out.get 1 rfl
  go_wp2_with fail
  refine (H3.out _).mono ?_
  rintro r w3 ⟨rfl, hb⟩
  have K3 := Lib.hid ((K2.out.push (-na) da 42).keep hb)
  clear hb l0 a0 a1
  obtain ⟨l0, a0, a1⟩ := K3.out.get 2 rfl
  go_wp2_with fail
  refine (H4.out _).mono ?_
  rintro r w4 ⟨rfl, hb⟩
  have K4 := Lib.hid (K3.out.keep hb)
  clear hb l0 a0 a1
  obtain ⟨l0, a0, a1⟩ := K4.out.get 2 rfl
  go_upto_region 7 with fail
  go_cut [12, 13] (fun t u wx => t = .int .i64 n ∧ u = .bool true ∧ Keeps w wx [(w2.heap.size, -na, da), (w.heap.size + 1, nb, db), (w.heap.size, na, da)])
  case first => as_aux_lemma =>
    go_region_held3 (fun w' => w'.cell? ⟨w.heap.size, 0, none⟩ = some (.int .i64 na) ∧ w'.cell? ⟨w.heap.size, 1, none⟩ = some (.int .i64 da)) (first | (with_reducible exact ⟨b0, b1⟩) | go_keep)
      (first | (go_at_call 15; (with_reducible refine (HOn.out _).mono ?_); rintro r u1 ⟨⟨v1, rfl, hv1⟩, hb1⟩; have J1 := Lib.hid (K4.out.keep (drew_belowR hb1)); have V1 := Lib.hid hv1; obtain ⟨_, b0, b1⟩ := J1.out.get 2 rfl; clear hb1 hv1) | (go_at_call 15; (with_reducible refine (HOd.out _).mono ?_); rintro r u2 ⟨⟨v2, rfl, hv2⟩, hb2⟩; have J2 := Lib.hid (J1.out.keep hb2); have V1' := Lib.hid (V1.out.keep hb2); have V2 := Lib.hid hv2; have HN1 := Lib.hid (HNr.out _ _ u2 V1'.out V2.out); clear b0 b1; obtain ⟨_, b0, b1⟩ := J2.out.get 2 rfl; clear hb2 hv2) | (go_at_call 13; (with_reducible refine HN1.out.mono ?_); rintro r u3 ⟨⟨v3, rfl, hv3⟩, hb3⟩; have J3 := Lib.hid (J2.out.keep hb3); have HI1 := Lib.hid (HIn.out _ u3 hv3); clear b0 b1; obtain ⟨_, b0, b1⟩ := J3.out.get 2 rfl; clear hb3 hv3) | (go_at_call 17; (with_reducible refine HI1.out.mono ?_); rintro r u4 ⟨rfl, hb4⟩; have J4 := Lib.hid (J3.out.keep hb4); clear b0 b1; obtain ⟨_, b0, b1⟩ := J4.out.get 2 rfl; clear hb4))
    go_wp2
    go_meet
    exact ⟨rfl, rfl, J4.out⟩
  case rest => as_aux_lemma =>
    obtain ⟨rfl, rfl, hK⟩ := hcut
    have K5 := Lib.hid hK
    clear hK l0 a0 a1 K1 K2 K3 K4
    obtain ⟨l0, a0, a1⟩ := K5.out.get 2 rfl
    obtain ⟨l1, b0, b1⟩ := K5.out.get 1 rfl
    obtain ⟨l2, m0, m1⟩ := K5.out.get 0 rfl
    go_wp2_with fail
    refine (HCb.out _).mono ?_
    rintro r w6 ⟨rfl, hb⟩
    have K6 := Lib.hid (K5.out.keep hb)
    clear hb l0 a0 a1 l1 b0 b1 l2 m0 m1
    by_cases he : eb = 0
    · obtain ⟨e1, hoa, hob, hor⟩ := HH2.out he
      have HOa := Lib.hid hoa
      have HOb := Lib.hid hob
      have HOr := Lib.hid hor
      subst he; subst e1
      clear hoa hob hor HH1 HH2
      obtain ⟨l0, a0, a1⟩ := K6.out.get 2 rfl
      obtain ⟨l1, b0, b1⟩ := K6.out.get 1 rfl
      go_wp2_with fail
      have hxx : (x == x) = true := by simp
      go_region_held3 (fun w' => w'.cell? ⟨w.heap.size, 0, none⟩ = some (.int .i64 na) ∧ w'.cell? ⟨w.heap.size, 1, none⟩ = some (.int .i64 da) ∧ w'.cell? ⟨w.heap.size + 1, 0, none⟩ = some (.int .i64 nb) ∧ w'.cell? ⟨w.heap.size + 1, 1, none⟩ = some (.int .i64 db)) (first | (with_reducible exact ⟨a0', a1', b0', b1'⟩) | go_keep)
        (first | (go_at_call 26; (with_reducible refine (HOa.out _).mono ?_); rintro r u1 ⟨⟨v1, rfl, hv1⟩, hb1⟩; have J1 := Lib.hid (K6.out.keep (drew_belowR hb1)); have V1 := Lib.hid hv1; obtain ⟨_, a0', a1'⟩ := J1.out.get 2 rfl; obtain ⟨_, b0', b1'⟩ := J1.out.get 1 rfl; clear hb1 hv1) | (go_at_call 26; (with_reducible refine (HOb.out _).mono ?_); rintro r u2 ⟨⟨v2, rfl, hv2⟩, hb2⟩; have J2 := Lib.hid (J1.out.keep hb2); have V1' := Lib.hid (V1.out.keep hb2); have V2 := Lib.hid hv2; have HO1 := Lib.hid (HOr.out _ _ u2 V1'.out V2.out); clear a0' a1' b0' b1'; obtain ⟨_, a0', a1'⟩ := J2.out.get 2 rfl; obtain ⟨_, b0', b1'⟩ := J2.out.get 1 rfl; clear hb2 hv2) | (go_at_call 38; (with_reducible refine HO1.out.mono ?_); rintro r u3 ⟨rfl, hb3⟩; have J3 := Lib.hid (J2.out.keep hb3); clear a0' a1' b0' b1'; obtain ⟨_, a0', a1'⟩ := J3.out.get 2 rfl; obtain ⟨_, b0', b1'⟩ := J3.out.get 1 rfl; clear hb3) | (go_at_call 24; (with_reducible refine (awakeR_any _).mono ?_); rintro r u4 ⟨rfl, hb4⟩; have J4 := Lib.hid (J3.out.keep hb4); clear a0' a1' b0' b1'; obtain ⟨_, a0', a1'⟩ := J4.out.get 2 rfl; obtain ⟨_, b0', b1'⟩ := J4.out.get 1 rfl; clear hb4))
      go_wp2
      go_ret
      exact ⟨rfl, J4.out.bel⟩
    · obtain ⟨e1, e2⟩ := HH1.out he
      subst e1; subst e2
      have q1 : (e != 0) = true := by simpa using he
      have q2 : (e == 0) = false := by simpa using he
      clear he HH1 HH2
      go_wp2_with fail
      refine (awakeR_any _).mono ?_
      rintro r w7 ⟨rfl, hb⟩
      have K7 := Lib.hid (K6.out.keep hb)
      clear hb
      go_wp2
      go_ret
      exact ⟨rfl, K7.out.bel⟩

end Go.Proofs.Ytljhjjkbpckkjaa

/-
  chattellaw02.RatioRanks's walks, over what its calls answer.
-/
import Derived.Test.YtljhjjkbpckkjaaKeepC
namespace Go.Proofs.Ytljhjjkbpckkjaa
open Go.RowKit
set_option linter.unusedVariables false

/-- What Compare answers; what Round answers. -/
def CM (n1 d1 n2 d2 x e : Int) : Prop := ∀ w, Calls Try.prog 35 #[.agg #[.int .i64 n1, .int .i64 d1], .agg #[.int .i64 n2, .int .i64 d2]] w fun r w' => r = .returned (.tuple #[.int .i64 x, .int .i64 e]) ∧ Below w.heap.size w w'
def RD (n d m e : Int) : Prop := ∀ w, Calls Try.prog 37 #[.agg #[.int .i64 n, .int .i64 d]] w fun r w' => r = .returned (.tuple #[.int .i64 m, .int .i64 e]) ∧ Below w.heap.size w w'

set_option maxHeartbeats 8000000 in
set_option maxRecDepth 100000 in
theorem ranks_less (na da nb db nc dc n m D1 D2 De P1 P2 Pe Q1 Q2 Qe : Int) (w : World)
    (hab : CM na da nb db (-1) 0) (hba : CM nb db na da 1 0) (hra : RD na da n 0) (hrb : RD nb db m 0) (hn : n ≤ m) (hsub : RC 28 na da nb db D1 D2 De) (hD : De = 0 → D1 < 0)
    (hp : RC 27 na da nc dc P1 P2 Pe) (hq : RC 27 nb db nc dc Q1 Q2 Qe) (hz : Pe = 0 → Qe = 0 → CM P1 P2 Q1 Q2 (-1) 0) :
    Calls Try.prog 9 #[.agg #[.int .i64 na, .int .i64 da], .agg #[.int .i64 nb, .int .i64 db], .agg #[.int .i64 nc, .int .i64 dc]] w fun e w' => e = .returned (.bool true) ∧ Below w.heap.size w w' := by
  have Hhab := Lib.hid hab
  have Hhba := Lib.hid hba
  have Hhra := Lib.hid hra
  have Hhrb := Lib.hid hrb
  have Hhsub := Lib.hid hsub
  have HhD := Lib.hid hD
  have Hhp := Lib.hid hp
  have Hhq := Lib.hid hq
  have Hhz := Lib.hid hz
  clear hab hba hra hrb hsub hD hp hq hz
  have hn2 : ¬ m < n := by omega
  go_enter Try.func9, Try.ntmps9
  go_wp2_with fail
  refine (Hhab.out _).mono ?_
  rintro e w1 ⟨rfl, hb⟩
  have K1 := Lib.hid ((Keeps.three w na da nb db nc dc 42).keep hb)
  clear hb
  obtain ⟨l0, c0a, c0b⟩ := K1.out.get 0 rfl
  obtain ⟨l1, c1a, c1b⟩ := K1.out.get 1 rfl
  obtain ⟨l2, c2a, c2b⟩ := K1.out.get 2 rfl
  go_wp2_with fail
  refine (Hhba.out _).mono ?_
  rintro e w2 ⟨rfl, hb⟩
  have K2 := Lib.hid (K1.out.keep hb)
  clear hb
  clear l0 c0a c0b l1 c1a c1b l2 c2a c2b
  obtain ⟨l0, c0a, c0b⟩ := K2.out.get 0 rfl
  obtain ⟨l1, c1a, c1b⟩ := K2.out.get 1 rfl
  obtain ⟨l2, c2a, c2b⟩ := K2.out.get 2 rfl
  go_wp2_with fail
  refine (Hhra.out _).mono ?_
  rintro e w3 ⟨rfl, hb⟩
  have K3 := Lib.hid (K2.out.keep hb)
  clear hb
  clear l0 c0a c0b l1 c1a c1b l2 c2a c2b
  obtain ⟨l0, c0a, c0b⟩ := K3.out.get 0 rfl
  obtain ⟨l1, c1a, c1b⟩ := K3.out.get 1 rfl
  obtain ⟨l2, c2a, c2b⟩ := K3.out.get 2 rfl
  go_wp2_with fail
  refine (Hhrb.out _).mono ?_
  rintro e w4 ⟨rfl, hb⟩
  have K4 := Lib.hid (K3.out.keep hb)
  clear hb
  clear l0 c0a c0b l1 c1a c1b l2 c2a c2b
  obtain ⟨l0, c0a, c0b⟩ := K4.out.get 0 rfl
  obtain ⟨l1, c1a, c1b⟩ := K4.out.get 1 rfl
  obtain ⟨l2, c2a, c2b⟩ := K4.out.get 2 rfl
  go_wp2_with fail
  refine (Hhsub.out _).mono ?_
  rintro e w5 ⟨rfl, hb⟩
  have K5 := Lib.hid (K4.out.keep hb)
  clear hb
  clear l0 c0a c0b l1 c1a c1b l2 c2a c2b
  obtain ⟨l0, c0a, c0b⟩ := K5.out.get 0 rfl
  obtain ⟨l1, c1a, c1b⟩ := K5.out.get 1 rfl
  obtain ⟨l2, c2a, c2b⟩ := K5.out.get 2 rfl
  go_upto_region 12 with fail
  have KA := Lib.hid (K5.out.push D1 D2 42)
  generalize w5.alloc (.cells #[.int .i64 D1, .int .i64 D2] 42) = WKA at KA ⊢
  clear l0 c0a c0b l1 c1a c1b l2 c2a c2b
  obtain ⟨l0, c0a, c0b⟩ := KA.out.get 0 rfl
  obtain ⟨l1, c1a, c1b⟩ := KA.out.get 1 rfl
  obtain ⟨l2, c2a, c2b⟩ := KA.out.get 2 rfl
  obtain ⟨l3, c3a, c3b⟩ := KA.out.get 3 rfl
  go_cut [136] (fun t wx => t = .bool false ∧ WKA = wx)
  case first => as_aux_lemma =>
    by_cases qDe : De = 0
    · have hd := HhD.out qDe
      subst qDe
      have hd2 : (D1 == 0) = false := by simp; omega
      go_wp2
      go_meet
      exact ⟨rfl, rfl⟩
    · have qn : (De == 0) = false := by simpa using qDe
      clear qDe
      go_wp2
      go_meet
      exact ⟨rfl, rfl⟩
  case rest => as_aux_lemma =>
  obtain ⟨rfl, rfl⟩ := hcut
  go_wp2_with fail
  refine (Hhp.out _).mono ?_
  rintro e w6 ⟨rfl, hb⟩
  have K6 := Lib.hid (KA.out.keep hb)
  clear hb
  clear l0 c0a c0b l1 c1a c1b l2 c2a c2b l3 c3a c3b
  obtain ⟨l0, c0a, c0b⟩ := K6.out.get 0 rfl
  obtain ⟨l1, c1a, c1b⟩ := K6.out.get 1 rfl
  obtain ⟨l2, c2a, c2b⟩ := K6.out.get 2 rfl
  obtain ⟨l3, c3a, c3b⟩ := K6.out.get 3 rfl
  go_wp2_with fail
  refine (Hhq.out _).mono ?_
  rintro e w7 ⟨rfl, hb⟩
  have K7 := Lib.hid ((K6.out.push P1 P2 42).keep hb)
  clear hb
  clear l0 c0a c0b l1 c1a c1b l2 c2a c2b l3 c3a c3b
  obtain ⟨l0, c0a, c0b⟩ := K7.out.get 0 rfl
  obtain ⟨l1, c1a, c1b⟩ := K7.out.get 1 rfl
  obtain ⟨l2, c2a, c2b⟩ := K7.out.get 2 rfl
  obtain ⟨l3, c3a, c3b⟩ := K7.out.get 3 rfl
  obtain ⟨l4, c4a, c4b⟩ := K7.out.get 4 rfl
  go_upto_region 16 with fail
  have KB := Lib.hid (K7.out.push Q1 Q2 42)
  generalize w7.alloc (.cells #[.int .i64 Q1, .int .i64 Q2] 42) = WKB at KB ⊢
  clear l0 c0a c0b l1 c1a c1b l2 c2a c2b l3 c3a c3b l4 c4a c4b
  obtain ⟨l0, c0a, c0b⟩ := KB.out.get 0 rfl
  obtain ⟨l1, c1a, c1b⟩ := KB.out.get 1 rfl
  obtain ⟨l2, c2a, c2b⟩ := KB.out.get 2 rfl
  obtain ⟨l3, c3a, c3b⟩ := KB.out.get 3 rfl
  obtain ⟨l4, c4a, c4b⟩ := KB.out.get 4 rfl
  obtain ⟨l5, c5a, c5b⟩ := KB.out.get 5 rfl
  by_cases qPe : Pe = 0
  · by_cases qQe : Qe = 0
    · have hc := Hhz.out qPe qQe
      have Hc := Lib.hid hc
      clear hc
      subst qPe; subst qQe
      go_wp2_with fail
      refine (Hc.out _).mono ?_
      rintro e w8 ⟨rfl, hb⟩
      have K8 := Lib.hid (KB.out.keep hb)
      clear hb
      clear l0 c0a c0b l1 c1a c1b l2 c2a c2b l3 c3a c3b l4 c4a c4b l5 c5a c5b
      obtain ⟨l0, c0a, c0b⟩ := K8.out.get 0 rfl
      obtain ⟨l1, c1a, c1b⟩ := K8.out.get 1 rfl
      obtain ⟨l2, c2a, c2b⟩ := K8.out.get 2 rfl
      obtain ⟨l3, c3a, c3b⟩ := K8.out.get 3 rfl
      obtain ⟨l4, c4a, c4b⟩ := K8.out.get 4 rfl
      obtain ⟨l5, c5a, c5b⟩ := K8.out.get 5 rfl
      go_wp2_with fail
      refine (awakeR_any _).mono ?_
      rintro e w' ⟨rfl, hb⟩
      have KX := Lib.hid (K8.out.keep hb)
      clear hb
      go_wp2
      go_ret
      exact ⟨rfl, KX.out.bel⟩
    · have qn : (Qe == 0) = false := by simpa using qQe
      have qm : (Qe != 0) = true := by simpa using qQe
      subst qPe
      clear qQe
      go_wp2_with fail
      refine (awakeR_any _).mono ?_
      rintro e w' ⟨rfl, hb⟩
      have KX := Lib.hid (KB.out.keep hb)
      clear hb
      go_wp2
      go_ret
      exact ⟨rfl, KX.out.bel⟩
  · have qn : (Pe == 0) = false := by simpa using qPe
    have qm : (Pe != 0) = true := by simpa using qPe
    clear qPe
    go_wp2_with fail
    refine (awakeR_any _).mono ?_
    rintro e w' ⟨rfl, hb⟩
    have KX := Lib.hid (KB.out.keep hb)
    clear hb
    go_wp2
    go_ret
    exact ⟨rfl, KX.out.bel⟩

set_option maxHeartbeats 8000000 in
set_option maxRecDepth 100000 in
theorem ranks_same (na da nc dc n D1 D2 De P1 P2 Pe Q1 Q2 Qe : Int) (w : World)
    (hab : CM na da na da 0 0) (hba : CM na da na da 0 0) (hra : RD na da n 0) (hrb : RD na da n 0) (hsub : RC 28 na da na da D1 D2 De) (hD : De = 0 → D1 = 0)
    (hp : RC 27 na da nc dc P1 P2 Pe) (hq : RC 27 na da nc dc Q1 Q2 Qe) (hz : Pe = 0 → Qe = 0 → CM P1 P2 Q1 Q2 0 0) :
    Calls Try.prog 9 #[.agg #[.int .i64 na, .int .i64 da], .agg #[.int .i64 na, .int .i64 da], .agg #[.int .i64 nc, .int .i64 dc]] w fun e w' => e = .returned (.bool true) ∧ Below w.heap.size w w' := by
  have Hhab := Lib.hid hab
  have Hhba := Lib.hid hba
  have Hhra := Lib.hid hra
  have Hhrb := Lib.hid hrb
  have Hhsub := Lib.hid hsub
  have HhD := Lib.hid hD
  have Hhp := Lib.hid hp
  have Hhq := Lib.hid hq
  have Hhz := Lib.hid hz
  clear hab hba hra hrb hsub hD hp hq hz
  go_enter Try.func9, Try.ntmps9
  go_wp2_with fail
  refine (Hhab.out _).mono ?_
  rintro e w1 ⟨rfl, hb⟩
  have K1 := Lib.hid ((Keeps.three w na da na da nc dc 42).keep hb)
  clear hb
  obtain ⟨l0, c0a, c0b⟩ := K1.out.get 0 rfl
  obtain ⟨l1, c1a, c1b⟩ := K1.out.get 1 rfl
  obtain ⟨l2, c2a, c2b⟩ := K1.out.get 2 rfl
  go_wp2_with fail
  refine (Hhba.out _).mono ?_
  rintro e w2 ⟨rfl, hb⟩
  have K2 := Lib.hid (K1.out.keep hb)
  clear hb
  clear l0 c0a c0b l1 c1a c1b l2 c2a c2b
  obtain ⟨l0, c0a, c0b⟩ := K2.out.get 0 rfl
  obtain ⟨l1, c1a, c1b⟩ := K2.out.get 1 rfl
  obtain ⟨l2, c2a, c2b⟩ := K2.out.get 2 rfl
  go_wp2_with fail
  refine (Hhra.out _).mono ?_
  rintro e w3 ⟨rfl, hb⟩
  have K3 := Lib.hid (K2.out.keep hb)
  clear hb
  clear l0 c0a c0b l1 c1a c1b l2 c2a c2b
  obtain ⟨l0, c0a, c0b⟩ := K3.out.get 0 rfl
  obtain ⟨l1, c1a, c1b⟩ := K3.out.get 1 rfl
  obtain ⟨l2, c2a, c2b⟩ := K3.out.get 2 rfl
  go_wp2_with fail
  refine (Hhrb.out _).mono ?_
  rintro e w4 ⟨rfl, hb⟩
  have K4 := Lib.hid (K3.out.keep hb)
  clear hb
  clear l0 c0a c0b l1 c1a c1b l2 c2a c2b
  obtain ⟨l0, c0a, c0b⟩ := K4.out.get 0 rfl
  obtain ⟨l1, c1a, c1b⟩ := K4.out.get 1 rfl
  obtain ⟨l2, c2a, c2b⟩ := K4.out.get 2 rfl
  go_wp2_with fail
  refine (Hhsub.out _).mono ?_
  rintro e w5 ⟨rfl, hb⟩
  have K5 := Lib.hid (K4.out.keep hb)
  clear hb
  clear l0 c0a c0b l1 c1a c1b l2 c2a c2b
  obtain ⟨l0, c0a, c0b⟩ := K5.out.get 0 rfl
  obtain ⟨l1, c1a, c1b⟩ := K5.out.get 1 rfl
  obtain ⟨l2, c2a, c2b⟩ := K5.out.get 2 rfl
  go_upto_region 12 with fail
  have KA := Lib.hid (K5.out.push D1 D2 42)
  generalize w5.alloc (.cells #[.int .i64 D1, .int .i64 D2] 42) = WKA at KA ⊢
  clear l0 c0a c0b l1 c1a c1b l2 c2a c2b
  obtain ⟨l0, c0a, c0b⟩ := KA.out.get 0 rfl
  obtain ⟨l1, c1a, c1b⟩ := KA.out.get 1 rfl
  obtain ⟨l2, c2a, c2b⟩ := KA.out.get 2 rfl
  obtain ⟨l3, c3a, c3b⟩ := KA.out.get 3 rfl
  go_cut [136] (fun t wx => t = .bool false ∧ WKA = wx)
  case first => as_aux_lemma =>
    by_cases qDe : De = 0
    · have hd := HhD.out qDe
      subst qDe
      subst hd
      go_wp2
      go_meet
      exact ⟨rfl, rfl⟩
    · have qn : (De == 0) = false := by simpa using qDe
      clear qDe
      go_wp2
      go_meet
      exact ⟨rfl, rfl⟩
  case rest => as_aux_lemma =>
  obtain ⟨rfl, rfl⟩ := hcut
  go_wp2_with fail
  refine (Hhp.out _).mono ?_
  rintro e w6 ⟨rfl, hb⟩
  have K6 := Lib.hid (KA.out.keep hb)
  clear hb
  clear l0 c0a c0b l1 c1a c1b l2 c2a c2b l3 c3a c3b
  obtain ⟨l0, c0a, c0b⟩ := K6.out.get 0 rfl
  obtain ⟨l1, c1a, c1b⟩ := K6.out.get 1 rfl
  obtain ⟨l2, c2a, c2b⟩ := K6.out.get 2 rfl
  obtain ⟨l3, c3a, c3b⟩ := K6.out.get 3 rfl
  go_wp2_with fail
  refine (Hhq.out _).mono ?_
  rintro e w7 ⟨rfl, hb⟩
  have K7 := Lib.hid ((K6.out.push P1 P2 42).keep hb)
  clear hb
  clear l0 c0a c0b l1 c1a c1b l2 c2a c2b l3 c3a c3b
  obtain ⟨l0, c0a, c0b⟩ := K7.out.get 0 rfl
  obtain ⟨l1, c1a, c1b⟩ := K7.out.get 1 rfl
  obtain ⟨l2, c2a, c2b⟩ := K7.out.get 2 rfl
  obtain ⟨l3, c3a, c3b⟩ := K7.out.get 3 rfl
  obtain ⟨l4, c4a, c4b⟩ := K7.out.get 4 rfl
  go_upto_region 16 with fail
  have KB := Lib.hid (K7.out.push Q1 Q2 42)
  generalize w7.alloc (.cells #[.int .i64 Q1, .int .i64 Q2] 42) = WKB at KB ⊢
  clear l0 c0a c0b l1 c1a c1b l2 c2a c2b l3 c3a c3b l4 c4a c4b
  obtain ⟨l0, c0a, c0b⟩ := KB.out.get 0 rfl
  obtain ⟨l1, c1a, c1b⟩ := KB.out.get 1 rfl
  obtain ⟨l2, c2a, c2b⟩ := KB.out.get 2 rfl
  obtain ⟨l3, c3a, c3b⟩ := KB.out.get 3 rfl
  obtain ⟨l4, c4a, c4b⟩ := KB.out.get 4 rfl
  obtain ⟨l5, c5a, c5b⟩ := KB.out.get 5 rfl
  by_cases qPe : Pe = 0
  · by_cases qQe : Qe = 0
    · have hc := Hhz.out qPe qQe
      have Hc := Lib.hid hc
      clear hc
      subst qPe; subst qQe
      go_wp2_with fail
      refine (Hc.out _).mono ?_
      rintro e w8 ⟨rfl, hb⟩
      have K8 := Lib.hid (KB.out.keep hb)
      clear hb
      clear l0 c0a c0b l1 c1a c1b l2 c2a c2b l3 c3a c3b l4 c4a c4b l5 c5a c5b
      obtain ⟨l0, c0a, c0b⟩ := K8.out.get 0 rfl
      obtain ⟨l1, c1a, c1b⟩ := K8.out.get 1 rfl
      obtain ⟨l2, c2a, c2b⟩ := K8.out.get 2 rfl
      obtain ⟨l3, c3a, c3b⟩ := K8.out.get 3 rfl
      obtain ⟨l4, c4a, c4b⟩ := K8.out.get 4 rfl
      obtain ⟨l5, c5a, c5b⟩ := K8.out.get 5 rfl
      go_wp2_with fail
      refine (awakeR_any _).mono ?_
      rintro e w' ⟨rfl, hb⟩
      have KX := Lib.hid (K8.out.keep hb)
      clear hb
      go_wp2
      go_ret
      exact ⟨rfl, KX.out.bel⟩
    · have qn : (Qe == 0) = false := by simpa using qQe
      have qm : (Qe != 0) = true := by simpa using qQe
      subst qPe
      clear qQe
      go_wp2_with fail
      refine (awakeR_any _).mono ?_
      rintro e w' ⟨rfl, hb⟩
      have KX := Lib.hid (KB.out.keep hb)
      clear hb
      go_wp2
      go_ret
      exact ⟨rfl, KX.out.bel⟩
  · have qn : (Pe == 0) = false := by simpa using qPe
    have qm : (Pe != 0) = true := by simpa using qPe
    clear qPe
    go_wp2_with fail
    refine (awakeR_any _).mono ?_
    rintro e w' ⟨rfl, hb⟩
    have KX := Lib.hid (KB.out.keep hb)
    clear hb
    go_wp2
    go_ret
    exact ⟨rfl, KX.out.bel⟩

set_option maxHeartbeats 8000000 in
set_option maxRecDepth 100000 in
theorem ranks_more (na da nb db nc dc n m D1 D2 De P1 P2 Pe Q1 Q2 Qe : Int) (w : World)
    (hab : CM na da nb db 1 0) (hba : CM nb db na da (-1) 0) (hra : RD na da n 0) (hrb : RD nb db m 0) (hn : m ≤ n) (hsub : RC 28 na da nb db D1 D2 De) (hD : De = 0 → 0 < D1)
    (hp : RC 27 na da nc dc P1 P2 Pe) (hq : RC 27 nb db nc dc Q1 Q2 Qe) (hz : Pe = 0 → Qe = 0 → CM P1 P2 Q1 Q2 1 0) :
    Calls Try.prog 9 #[.agg #[.int .i64 na, .int .i64 da], .agg #[.int .i64 nb, .int .i64 db], .agg #[.int .i64 nc, .int .i64 dc]] w fun e w' => e = .returned (.bool true) ∧ Below w.heap.size w w' := by
  have Hhab := Lib.hid hab
  have Hhba := Lib.hid hba
  have Hhra := Lib.hid hra
  have Hhrb := Lib.hid hrb
  have Hhsub := Lib.hid hsub
  have HhD := Lib.hid hD
  have Hhp := Lib.hid hp
  have Hhq := Lib.hid hq
  have Hhz := Lib.hid hz
  clear hab hba hra hrb hsub hD hp hq hz
  have hn2 : ¬ n < m := by omega
  go_enter Try.func9, Try.ntmps9
  go_wp2_with fail
  refine (Hhab.out _).mono ?_
  rintro e w1 ⟨rfl, hb⟩
  have K1 := Lib.hid ((Keeps.three w na da nb db nc dc 42).keep hb)
  clear hb
  obtain ⟨l0, c0a, c0b⟩ := K1.out.get 0 rfl
  obtain ⟨l1, c1a, c1b⟩ := K1.out.get 1 rfl
  obtain ⟨l2, c2a, c2b⟩ := K1.out.get 2 rfl
  go_wp2_with fail
  refine (Hhba.out _).mono ?_
  rintro e w2 ⟨rfl, hb⟩
  have K2 := Lib.hid (K1.out.keep hb)
  clear hb
  clear l0 c0a c0b l1 c1a c1b l2 c2a c2b
  obtain ⟨l0, c0a, c0b⟩ := K2.out.get 0 rfl
  obtain ⟨l1, c1a, c1b⟩ := K2.out.get 1 rfl
  obtain ⟨l2, c2a, c2b⟩ := K2.out.get 2 rfl
  go_wp2_with fail
  refine (Hhra.out _).mono ?_
  rintro e w3 ⟨rfl, hb⟩
  have K3 := Lib.hid (K2.out.keep hb)
  clear hb
  clear l0 c0a c0b l1 c1a c1b l2 c2a c2b
  obtain ⟨l0, c0a, c0b⟩ := K3.out.get 0 rfl
  obtain ⟨l1, c1a, c1b⟩ := K3.out.get 1 rfl
  obtain ⟨l2, c2a, c2b⟩ := K3.out.get 2 rfl
  go_wp2_with fail
  refine (Hhrb.out _).mono ?_
  rintro e w4 ⟨rfl, hb⟩
  have K4 := Lib.hid (K3.out.keep hb)
  clear hb
  clear l0 c0a c0b l1 c1a c1b l2 c2a c2b
  obtain ⟨l0, c0a, c0b⟩ := K4.out.get 0 rfl
  obtain ⟨l1, c1a, c1b⟩ := K4.out.get 1 rfl
  obtain ⟨l2, c2a, c2b⟩ := K4.out.get 2 rfl
  go_wp2_with fail
  refine (Hhsub.out _).mono ?_
  rintro e w5 ⟨rfl, hb⟩
  have K5 := Lib.hid (K4.out.keep hb)
  clear hb
  clear l0 c0a c0b l1 c1a c1b l2 c2a c2b
  obtain ⟨l0, c0a, c0b⟩ := K5.out.get 0 rfl
  obtain ⟨l1, c1a, c1b⟩ := K5.out.get 1 rfl
  obtain ⟨l2, c2a, c2b⟩ := K5.out.get 2 rfl
  go_upto_region 12 with fail
  have KA := Lib.hid (K5.out.push D1 D2 42)
  generalize w5.alloc (.cells #[.int .i64 D1, .int .i64 D2] 42) = WKA at KA ⊢
  clear l0 c0a c0b l1 c1a c1b l2 c2a c2b
  obtain ⟨l0, c0a, c0b⟩ := KA.out.get 0 rfl
  obtain ⟨l1, c1a, c1b⟩ := KA.out.get 1 rfl
  obtain ⟨l2, c2a, c2b⟩ := KA.out.get 2 rfl
  obtain ⟨l3, c3a, c3b⟩ := KA.out.get 3 rfl
  go_cut [136] (fun t wx => t = .bool false ∧ WKA = wx)
  case first => as_aux_lemma =>
    by_cases qDe : De = 0
    · have hd := HhD.out qDe
      subst qDe
      have hd2 : (D1 == 0) = false := by simp; omega
      have hd3 : ¬ D1 < 0 := by omega
      go_wp2
      go_meet
      exact ⟨rfl, rfl⟩
    · have qn : (De == 0) = false := by simpa using qDe
      clear qDe
      go_wp2
      go_meet
      exact ⟨rfl, rfl⟩
  case rest => as_aux_lemma =>
  obtain ⟨rfl, rfl⟩ := hcut
  go_wp2_with fail
  refine (Hhp.out _).mono ?_
  rintro e w6 ⟨rfl, hb⟩
  have K6 := Lib.hid (KA.out.keep hb)
  clear hb
  clear l0 c0a c0b l1 c1a c1b l2 c2a c2b l3 c3a c3b
  obtain ⟨l0, c0a, c0b⟩ := K6.out.get 0 rfl
  obtain ⟨l1, c1a, c1b⟩ := K6.out.get 1 rfl
  obtain ⟨l2, c2a, c2b⟩ := K6.out.get 2 rfl
  obtain ⟨l3, c3a, c3b⟩ := K6.out.get 3 rfl
  go_wp2_with fail
  refine (Hhq.out _).mono ?_
  rintro e w7 ⟨rfl, hb⟩
  have K7 := Lib.hid ((K6.out.push P1 P2 42).keep hb)
  clear hb
  clear l0 c0a c0b l1 c1a c1b l2 c2a c2b l3 c3a c3b
  obtain ⟨l0, c0a, c0b⟩ := K7.out.get 0 rfl
  obtain ⟨l1, c1a, c1b⟩ := K7.out.get 1 rfl
  obtain ⟨l2, c2a, c2b⟩ := K7.out.get 2 rfl
  obtain ⟨l3, c3a, c3b⟩ := K7.out.get 3 rfl
  obtain ⟨l4, c4a, c4b⟩ := K7.out.get 4 rfl
  go_upto_region 16 with fail
  have KB := Lib.hid (K7.out.push Q1 Q2 42)
  generalize w7.alloc (.cells #[.int .i64 Q1, .int .i64 Q2] 42) = WKB at KB ⊢
  clear l0 c0a c0b l1 c1a c1b l2 c2a c2b l3 c3a c3b l4 c4a c4b
  obtain ⟨l0, c0a, c0b⟩ := KB.out.get 0 rfl
  obtain ⟨l1, c1a, c1b⟩ := KB.out.get 1 rfl
  obtain ⟨l2, c2a, c2b⟩ := KB.out.get 2 rfl
  obtain ⟨l3, c3a, c3b⟩ := KB.out.get 3 rfl
  obtain ⟨l4, c4a, c4b⟩ := KB.out.get 4 rfl
  obtain ⟨l5, c5a, c5b⟩ := KB.out.get 5 rfl
  by_cases qPe : Pe = 0
  · by_cases qQe : Qe = 0
    · have hc := Hhz.out qPe qQe
      have Hc := Lib.hid hc
      clear hc
      subst qPe; subst qQe
      go_wp2_with fail
      refine (Hc.out _).mono ?_
      rintro e w8 ⟨rfl, hb⟩
      have K8 := Lib.hid (KB.out.keep hb)
      clear hb
      clear l0 c0a c0b l1 c1a c1b l2 c2a c2b l3 c3a c3b l4 c4a c4b l5 c5a c5b
      obtain ⟨l0, c0a, c0b⟩ := K8.out.get 0 rfl
      obtain ⟨l1, c1a, c1b⟩ := K8.out.get 1 rfl
      obtain ⟨l2, c2a, c2b⟩ := K8.out.get 2 rfl
      obtain ⟨l3, c3a, c3b⟩ := K8.out.get 3 rfl
      obtain ⟨l4, c4a, c4b⟩ := K8.out.get 4 rfl
      obtain ⟨l5, c5a, c5b⟩ := K8.out.get 5 rfl
      go_wp2_with fail
      refine (awakeR_any _).mono ?_
      rintro e w' ⟨rfl, hb⟩
      have KX := Lib.hid (K8.out.keep hb)
      clear hb
      go_wp2
      go_ret
      exact ⟨rfl, KX.out.bel⟩
    · have qn : (Qe == 0) = false := by simpa using qQe
      have qm : (Qe != 0) = true := by simpa using qQe
      subst qPe
      clear qQe
      go_wp2_with fail
      refine (awakeR_any _).mono ?_
      rintro e w' ⟨rfl, hb⟩
      have KX := Lib.hid (KB.out.keep hb)
      clear hb
      go_wp2
      go_ret
      exact ⟨rfl, KX.out.bel⟩
  · have qn : (Pe == 0) = false := by simpa using qPe
    have qm : (Pe != 0) = true := by simpa using qPe
    clear qPe
    go_wp2_with fail
    refine (awakeR_any _).mono ?_
    rintro e w' ⟨rfl, hb⟩
    have KX := Lib.hid (KB.out.keep hb)
    clear hb
    go_wp2
    go_ret
    exact ⟨rfl, KX.out.bel⟩

set_option maxHeartbeats 8000000 in
set_option maxRecDepth 100000 in
theorem ranks_err (na da nb db nc dc e f : Int) (w : World) (he : e ≠ 0) (hf : f ≠ 0) (hab : CM na da nb db 0 e) (hba : CM nb db na da 0 f) :
    Calls Try.prog 9 #[.agg #[.int .i64 na, .int .i64 da], .agg #[.int .i64 nb, .int .i64 db], .agg #[.int .i64 nc, .int .i64 dc]] w fun e w' => e = .returned (.bool true) ∧ Below w.heap.size w w' := by
  have Hhab := Lib.hid hab
  have Hhba := Lib.hid hba
  have qe1 : (e != 0) = true := by simpa using he
  have qe2 : (e == 0) = false := by simpa using he
  have qf1 : (f != 0) = true := by simpa using hf
  have qf2 : (f == 0) = false := by simpa using hf
  clear hab hba he hf
  go_enter Try.func9, Try.ntmps9
  go_wp2_with fail
  refine (Hhab.out _).mono ?_
  rintro e w1 ⟨rfl, hb⟩
  have K1 := Lib.hid ((Keeps.three w na da nb db nc dc 42).keep hb)
  clear hb
  obtain ⟨l0, c0a, c0b⟩ := K1.out.get 0 rfl
  obtain ⟨l1, c1a, c1b⟩ := K1.out.get 1 rfl
  obtain ⟨l2, c2a, c2b⟩ := K1.out.get 2 rfl
  go_wp2_with fail
  refine (Hhba.out _).mono ?_
  rintro e w2 ⟨rfl, hb⟩
  have K2 := Lib.hid (K1.out.keep hb)
  clear hb
  clear l0 c0a c0b l1 c1a c1b l2 c2a c2b
  obtain ⟨l0, c0a, c0b⟩ := K2.out.get 0 rfl
  obtain ⟨l1, c1a, c1b⟩ := K2.out.get 1 rfl
  obtain ⟨l2, c2a, c2b⟩ := K2.out.get 2 rfl
  go_wp2_with fail
  refine (awakeR_any _).mono ?_
  rintro e w' ⟨rfl, hb⟩
  have KX := Lib.hid (K2.out.keep hb)
  clear hb
  go_wp2
  go_ret
  exact ⟨rfl, KX.out.bel⟩

end Go.Proofs.Ytljhjjkbpckkjaa

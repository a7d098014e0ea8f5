/-
  chattellaw02.RatioLaws's walk, over what its calls answer.
-/
import Derived.Test.YtljhjjkbpckkjaaKeep
namespace Go.Proofs.Ytljhjjkbpckkjaa
open Go.RowKit
set_option linter.unusedVariables false

/-- What a call with two ratios answers; what Check answers. -/
def RC (f : FuncId) (n1 d1 n2 d2 x y e : Int) : Prop := ∀ w, Calls Try.prog f #[.agg #[.int .i64 n1, .int .i64 d1], .agg #[.int .i64 n2, .int .i64 d2]] w fun r w' => r = .returned (.tuple #[.agg #[.int .i64 x, .int .i64 y], .int .i64 e]) ∧ Below w.heap.size w w'
def CH (n d e : Int) : Prop := ∀ w, Calls Try.prog 22 #[.agg #[.int .i64 n, .int .i64 d]] w fun r w' => r = .returned (.int .i64 e) ∧ Below w.heap.size w w'

theorem Keeps.tail {w wx : World} {t : Nat × Int × Int} {L : List (Nat × Int × Int)} (h : Keeps w wx (t :: L)) : Keeps w wx L := ⟨h.bel, fun u hu => h.all u (List.mem_cons_of_mem _ hu)⟩
theorem Keeps.three (w : World) (na da nb db nc dc : Int) (e : TypeId) : Keeps w (((w.alloc (.cells #[.int .i64 na, .int .i64 da] e)).alloc (.cells #[.int .i64 nb, .int .i64 db] e)).alloc (.cells #[.int .i64 nc, .int .i64 dc] e)) [(w.heap.size + 1 + 1, nc, dc), (w.heap.size + 1, nb, db), (w.heap.size, na, da)] := by
  have h := (((Keeps.nil w).push na da e).push nb db e).push nc dc e
  have z1 : (w.alloc (.cells #[.int .i64 na, .int .i64 da] e)).heap.size = w.heap.size + 1 := by simp
  have z2 : ((w.alloc (.cells #[.int .i64 na, .int .i64 da] e)).alloc (.cells #[.int .i64 nb, .int .i64 db] e)).heap.size = w.heap.size + 1 + 1 := by simp
  rw [z1, z2] at h
  exact h

set_option maxHeartbeats 8000000 in
set_option maxRecDepth 100000 in
theorem laws_core (na da nb db nc dc A1 A2 Ae B1 B2 Be P1 P2 Pe Q1 Q2 Qe X1 X2 Xe Y1 Y2 Ye Z1 Z2 Ze S1 S2 Se M1 M2 Me L1 L2 Le R1 R2 Re ea eb : Int) (w : World)
    (hab : RC 27 na da nb db A1 A2 Ae) (hba : RC 27 nb db na da B1 B2 Be) (hp : RC 29 na da nb db P1 P2 Pe) (hq : RC 29 nb db na da Q1 Q2 Qe) (hca : CH na da ea) (hcb : CH nb db eb)
    (f1 : ea = 0 → eb = 0 → A1 = B1 ∧ A2 = B2 ∧ Ae = Be ∧ P1 = Q1 ∧ P2 = Q2 ∧ Pe = Qe) (f2 : Ae = 0 → RC 28 A1 A2 nb db na da 0 ∧ CH A1 A2 0) (f3 : Pe = 0 → nb ≠ 0 → RC 30 P1 P2 nb db na da 0 ∧ CH P1 P2 0)
    (hx : RC 29 A1 A2 nc dc X1 X2 Xe) (hy : RC 29 na da nc dc Y1 Y2 Ye) (hz : RC 29 nb db nc dc Z1 Z2 Ze) (hs : RC 27 Y1 Y2 Z1 Z2 S1 S2 Se)
    (f4 : Ae = 0 → Xe = 0 → Ye = 0 → Ze = 0 → Se = 0 → X1 = S1 ∧ X2 = S2)
    (hbc : RC 27 nb db nc dc M1 M2 Me) (hl : RC 27 A1 A2 nc dc L1 L2 Le) (hr : RC 27 na da M1 M2 R1 R2 Re)
    (f5 : Ae = 0 → Me = 0 → Le = 0 → Re = 0 → L1 = R1 ∧ L2 = R2) :
    Calls Try.prog 8 #[.agg #[.int .i64 na, .int .i64 da], .agg #[.int .i64 nb, .int .i64 db], .agg #[.int .i64 nc, .int .i64 dc]] w fun e w' => e = .returned (.bool true) ∧ Below w.heap.size w w' := by
  have Hhab := Lib.hid hab
  have Hhba := Lib.hid hba
  have Hhp := Lib.hid hp
  have Hhq := Lib.hid hq
  have Hhca := Lib.hid hca
  have Hhcb := Lib.hid hcb
  have Hf1 := Lib.hid f1
  have Hf2 := Lib.hid f2
  have Hf3 := Lib.hid f3
  have Hhx := Lib.hid hx
  have Hhy := Lib.hid hy
  have Hhz := Lib.hid hz
  have Hhs := Lib.hid hs
  have Hf4 := Lib.hid f4
  have Hhbc := Lib.hid hbc
  have Hhl := Lib.hid hl
  have Hhr := Lib.hid hr
  have Hf5 := Lib.hid f5
  clear hab hba hp hq hca hcb f1 f2 f3 hx hy hz hs f4 hbc hl hr f5
  go_enter Try.func8, Try.ntmps8
  go_wp2_with fail
  refine (Hhab.out _).mono ?_
  rintro e w1 ⟨rfl, hb⟩
  have K1 := Lib.hid ((Keeps.three w na da nb db nc dc 42).keep hb)
  clear hb
  obtain ⟨l0, c0a, c0b⟩ := K1.out.get 0 rfl
  obtain ⟨l1, c1a, c1b⟩ := K1.out.get 1 rfl
  obtain ⟨l2, c2a, c2b⟩ := K1.out.get 2 rfl
  go_wp2_with fail
  refine (Hhba.out _).mono ?_
  rintro e w2 ⟨rfl, hb⟩
  have K2 := Lib.hid ((K1.out.push A1 A2 42).keep hb)
  clear hb
  clear l0 c0a c0b l1 c1a c1b l2 c2a c2b
  obtain ⟨l0, c0a, c0b⟩ := K2.out.get 0 rfl
  obtain ⟨l1, c1a, c1b⟩ := K2.out.get 1 rfl
  obtain ⟨l2, c2a, c2b⟩ := K2.out.get 2 rfl
  obtain ⟨l3, c3a, c3b⟩ := K2.out.get 3 rfl
  go_wp2_with fail
  refine (Hhp.out _).mono ?_
  rintro e w3 ⟨rfl, hb⟩
  have K3 := Lib.hid ((K2.out.push B1 B2 42).keep hb)
  clear hb
  clear l0 c0a c0b l1 c1a c1b l2 c2a c2b l3 c3a c3b
  obtain ⟨l0, c0a, c0b⟩ := K3.out.get 0 rfl
  obtain ⟨l1, c1a, c1b⟩ := K3.out.get 1 rfl
  obtain ⟨l2, c2a, c2b⟩ := K3.out.get 2 rfl
  obtain ⟨l3, c3a, c3b⟩ := K3.out.get 3 rfl
  obtain ⟨l4, c4a, c4b⟩ := K3.out.get 4 rfl
  go_wp2_with fail
  refine (Hhq.out _).mono ?_
  rintro e w4 ⟨rfl, hb⟩
  have K4 := Lib.hid ((K3.out.push P1 P2 42).keep hb)
  clear hb
  clear l0 c0a c0b l1 c1a c1b l2 c2a c2b l3 c3a c3b l4 c4a c4b
  obtain ⟨l0, c0a, c0b⟩ := K4.out.get 0 rfl
  obtain ⟨l1, c1a, c1b⟩ := K4.out.get 1 rfl
  obtain ⟨l2, c2a, c2b⟩ := K4.out.get 2 rfl
  obtain ⟨l3, c3a, c3b⟩ := K4.out.get 3 rfl
  obtain ⟨l4, c4a, c4b⟩ := K4.out.get 4 rfl
  obtain ⟨l5, c5a, c5b⟩ := K4.out.get 5 rfl
  go_upto_region 5 with fail
  have KA := Lib.hid (K4.out.push Q1 Q2 42)
  generalize w4.alloc (.cells #[.int .i64 Q1, .int .i64 Q2] 42) = WKA at KA ⊢
  clear l0 c0a c0b l1 c1a c1b l2 c2a c2b l3 c3a c3b l4 c4a c4b l5 c5a c5b
  obtain ⟨l0, c0a, c0b⟩ := KA.out.get 0 rfl
  obtain ⟨l1, c1a, c1b⟩ := KA.out.get 1 rfl
  obtain ⟨l2, c2a, c2b⟩ := KA.out.get 2 rfl
  obtain ⟨l3, c3a, c3b⟩ := KA.out.get 3 rfl
  obtain ⟨l4, c4a, c4b⟩ := KA.out.get 4 rfl
  obtain ⟨l5, c5a, c5b⟩ := KA.out.get 5 rfl
  obtain ⟨l6, c6a, c6b⟩ := KA.out.get 6 rfl
  go_cut [84] (fun t wx => t = .bool false ∧ Keeps w wx [(w4.heap.size, Q1, Q2), (w3.heap.size, P1, P2), (w2.heap.size, B1, B2), (w1.heap.size, A1, A2), (w.heap.size + 1 + 1, nc, dc), (w.heap.size + 1, nb, db), (w.heap.size, na, da)])
  case first => as_aux_lemma =>
    by_cases qea : ea = 0
    · subst qea
      by_cases qeb : eb = 0
      · obtain ⟨e1, e2, e3, e4, e5, e6⟩ := Hf1.out rfl qeb
        subst qeb; subst e1; subst e2; subst e3; subst e4; subst e5; subst e6
        go_wp2_with fail
        refine (Hhca.out _).mono ?_
        rintro e w5 ⟨rfl, hb⟩
        have KC1 := Lib.hid (KA.out.keep hb)
        clear hb
        clear l0 c0a c0b l1 c1a c1b l2 c2a c2b l3 c3a c3b l4 c4a c4b l5 c5a c5b l6 c6a c6b
        obtain ⟨l0, c0a, c0b⟩ := KC1.out.get 0 rfl
        obtain ⟨l1, c1a, c1b⟩ := KC1.out.get 1 rfl
        obtain ⟨l2, c2a, c2b⟩ := KC1.out.get 2 rfl
        obtain ⟨l3, c3a, c3b⟩ := KC1.out.get 3 rfl
        obtain ⟨l4, c4a, c4b⟩ := KC1.out.get 4 rfl
        obtain ⟨l5, c5a, c5b⟩ := KC1.out.get 5 rfl
        obtain ⟨l6, c6a, c6b⟩ := KC1.out.get 6 rfl
        go_wp2_with fail
        refine (Hhcb.out _).mono ?_
        rintro e w6 ⟨rfl, hb⟩
        have KC2 := Lib.hid (KC1.out.keep hb)
        clear hb
        clear l0 c0a c0b l1 c1a c1b l2 c2a c2b l3 c3a c3b l4 c4a c4b l5 c5a c5b l6 c6a c6b
        obtain ⟨l0, c0a, c0b⟩ := KC2.out.get 0 rfl
        obtain ⟨l1, c1a, c1b⟩ := KC2.out.get 1 rfl
        obtain ⟨l2, c2a, c2b⟩ := KC2.out.get 2 rfl
        obtain ⟨l3, c3a, c3b⟩ := KC2.out.get 3 rfl
        obtain ⟨l4, c4a, c4b⟩ := KC2.out.get 4 rfl
        obtain ⟨l5, c5a, c5b⟩ := KC2.out.get 5 rfl
        obtain ⟨l6, c6a, c6b⟩ := KC2.out.get 6 rfl
        go_wp2
        go_meet
        exact ⟨rfl, KC2.out⟩
      · have qb : (eb == 0) = false := by simpa using qeb
        clear qeb
        go_wp2_with fail
        refine (Hhca.out _).mono ?_
        rintro e w5 ⟨rfl, hb⟩
        have KC1 := Lib.hid (KA.out.keep hb)
        clear hb
        clear l0 c0a c0b l1 c1a c1b l2 c2a c2b l3 c3a c3b l4 c4a c4b l5 c5a c5b l6 c6a c6b
        obtain ⟨l0, c0a, c0b⟩ := KC1.out.get 0 rfl
        obtain ⟨l1, c1a, c1b⟩ := KC1.out.get 1 rfl
        obtain ⟨l2, c2a, c2b⟩ := KC1.out.get 2 rfl
        obtain ⟨l3, c3a, c3b⟩ := KC1.out.get 3 rfl
        obtain ⟨l4, c4a, c4b⟩ := KC1.out.get 4 rfl
        obtain ⟨l5, c5a, c5b⟩ := KC1.out.get 5 rfl
        obtain ⟨l6, c6a, c6b⟩ := KC1.out.get 6 rfl
        go_wp2_with fail
        refine (Hhcb.out _).mono ?_
        rintro e w6 ⟨rfl, hb⟩
        have KC2 := Lib.hid (KC1.out.keep hb)
        clear hb
        clear l0 c0a c0b l1 c1a c1b l2 c2a c2b l3 c3a c3b l4 c4a c4b l5 c5a c5b l6 c6a c6b
        obtain ⟨l0, c0a, c0b⟩ := KC2.out.get 0 rfl
        obtain ⟨l1, c1a, c1b⟩ := KC2.out.get 1 rfl
        obtain ⟨l2, c2a, c2b⟩ := KC2.out.get 2 rfl
        obtain ⟨l3, c3a, c3b⟩ := KC2.out.get 3 rfl
        obtain ⟨l4, c4a, c4b⟩ := KC2.out.get 4 rfl
        obtain ⟨l5, c5a, c5b⟩ := KC2.out.get 5 rfl
        obtain ⟨l6, c6a, c6b⟩ := KC2.out.get 6 rfl
        go_wp2
        go_meet
        exact ⟨rfl, KC2.out⟩
    · have qa : (ea == 0) = false := by simpa using qea
      clear qea
      go_wp2_with fail
      refine (Hhca.out _).mono ?_
      rintro e w5 ⟨rfl, hb⟩
      have KC1 := Lib.hid (KA.out.keep hb)
      clear hb
      clear l0 c0a c0b l1 c1a c1b l2 c2a c2b l3 c3a c3b l4 c4a c4b l5 c5a c5b l6 c6a c6b
      obtain ⟨l0, c0a, c0b⟩ := KC1.out.get 0 rfl
      obtain ⟨l1, c1a, c1b⟩ := KC1.out.get 1 rfl
      obtain ⟨l2, c2a, c2b⟩ := KC1.out.get 2 rfl
      obtain ⟨l3, c3a, c3b⟩ := KC1.out.get 3 rfl
      obtain ⟨l4, c4a, c4b⟩ := KC1.out.get 4 rfl
      obtain ⟨l5, c5a, c5b⟩ := KC1.out.get 5 rfl
      obtain ⟨l6, c6a, c6b⟩ := KC1.out.get 6 rfl
      go_wp2
      go_meet
      exact ⟨rfl, KC1.out⟩
  case rest => as_aux_lemma =>
  obtain ⟨rfl, hK⟩ := hcut
  have KB := Lib.hid hK
  clear hK
  clear l0 c0a c0b l1 c1a c1b l2 c2a c2b l3 c3a c3b l4 c4a c4b l5 c5a c5b l6 c6a c6b
  obtain ⟨l0, c0a, c0b⟩ := KB.out.get 0 rfl
  obtain ⟨l1, c1a, c1b⟩ := KB.out.get 1 rfl
  obtain ⟨l2, c2a, c2b⟩ := KB.out.get 2 rfl
  obtain ⟨l3, c3a, c3b⟩ := KB.out.get 3 rfl
  obtain ⟨l4, c4a, c4b⟩ := KB.out.get 4 rfl
  obtain ⟨l5, c5a, c5b⟩ := KB.out.get 5 rfl
  obtain ⟨l6, c6a, c6b⟩ := KB.out.get 6 rfl
  go_upto_if 86 with fail
  go_cut [] (fun wx => Keeps w wx [(w4.heap.size, Q1, Q2), (w3.heap.size, P1, P2), (w2.heap.size, B1, B2), (w1.heap.size, A1, A2), (w.heap.size + 1 + 1, nc, dc), (w.heap.size + 1, nb, db), (w.heap.size, na, da)])
  case first => as_aux_lemma =>
    by_cases qAe : Ae = 0
    · obtain ⟨hsub, hch⟩ := Hf2.out qAe
      have Hsub := Lib.hid hsub
      have Hch := Lib.hid hch
      clear hsub hch
      subst qAe
      go_wp2_with fail
      refine (Hsub.out _).mono ?_
      rintro e w5 ⟨rfl, hb⟩
      have K5 := Lib.hid (KB.out.keep hb)
      clear hb
      clear l0 c0a c0b l1 c1a c1b l2 c2a c2b l3 c3a c3b l4 c4a c4b l5 c5a c5b l6 c6a c6b
      obtain ⟨l0, c0a, c0b⟩ := K5.out.get 0 rfl
      obtain ⟨l1, c1a, c1b⟩ := K5.out.get 1 rfl
      obtain ⟨l2, c2a, c2b⟩ := K5.out.get 2 rfl
      obtain ⟨l3, c3a, c3b⟩ := K5.out.get 3 rfl
      obtain ⟨l4, c4a, c4b⟩ := K5.out.get 4 rfl
      obtain ⟨l5, c5a, c5b⟩ := K5.out.get 5 rfl
      obtain ⟨l6, c6a, c6b⟩ := K5.out.get 6 rfl
      go_wp2_with fail
      refine (Hch.out _).mono ?_
      rintro e w' ⟨rfl, hb⟩
      have KX := Lib.hid ((K5.out.push na da 42).keep hb)
      clear hb
      go_wp2
      go_meet
      exact KX.out.tail
    · have qa : (Ae == 0) = false := by simpa using qAe
      clear qAe
      go_wp2
      go_meet
      exact KB.out
  case rest => as_aux_lemma =>
  have hK := hcut
  have KD := Lib.hid hK
  clear hK hcut
  clear l0 c0a c0b l1 c1a c1b l2 c2a c2b l3 c3a c3b l4 c4a c4b l5 c5a c5b l6 c6a c6b
  obtain ⟨l0, c0a, c0b⟩ := KD.out.get 0 rfl
  obtain ⟨l1, c1a, c1b⟩ := KD.out.get 1 rfl
  obtain ⟨l2, c2a, c2b⟩ := KD.out.get 2 rfl
  obtain ⟨l3, c3a, c3b⟩ := KD.out.get 3 rfl
  obtain ⟨l4, c4a, c4b⟩ := KD.out.get 4 rfl
  obtain ⟨l5, c5a, c5b⟩ := KD.out.get 5 rfl
  obtain ⟨l6, c6a, c6b⟩ := KD.out.get 6 rfl
  go_upto_region 11 with fail
  obtain ⟨tb, htb⟩ : ∃ tb : Bool, tb = ((Pe == 0) && (nb != 0)) := ⟨_, rfl⟩
  have HTb := Lib.hid htb
  clear htb
  go_cut [111] (fun t wx => t = .bool tb ∧ wc = wx)
  case first => as_aux_lemma =>
    by_cases qPe : Pe = 0
    · subst qPe
      by_cases qnb : nb = 0
      · subst qnb
        go_wp2
        go_meet
        exact ⟨by rw [HTb.out]; rfl, rfl⟩
      · have qb : (nb != 0) = true := by simpa using qnb
        have qc : (nb == 0) = false := by simpa using qnb
        clear qnb
        go_wp2
        go_meet
        exact ⟨by rw [HTb.out, qb]; rfl, rfl⟩
    · have qa : (Pe == 0) = false := by simpa using qPe
      clear qPe
      go_wp2
      go_meet
      exact ⟨by rw [HTb.out, qa]; rfl, rfl⟩
  case rest => as_aux_lemma =>
  obtain ⟨rfl, rfl⟩ := hcut
  go_upto_if 111 with fail
  go_cut [] (fun wx => Keeps w wx [(w4.heap.size, Q1, Q2), (w3.heap.size, P1, P2), (w2.heap.size, B1, B2), (w1.heap.size, A1, A2), (w.heap.size + 1 + 1, nc, dc), (w.heap.size + 1, nb, db), (w.heap.size, na, da)])
  case first => as_aux_lemma =>
    cases tb
    · skip
      go_wp2
      go_meet
      exact KD.out
    · have qd : Pe = 0 ∧ nb ≠ 0 := by have := HTb.out.symm; simpa using this
      obtain ⟨hsub, hch⟩ := Hf3.out qd.1 qd.2
      have Hsub := Lib.hid hsub
      have Hch := Lib.hid hch
      obtain ⟨qd1, _⟩ := qd
      clear hsub hch
      subst qd1
      go_wp2_with fail
      refine (Hsub.out _).mono ?_
      rintro e w5 ⟨rfl, hb⟩
      have K5 := Lib.hid (KD.out.keep hb)
      clear hb
      clear l0 c0a c0b l1 c1a c1b l2 c2a c2b l3 c3a c3b l4 c4a c4b l5 c5a c5b l6 c6a c6b
      obtain ⟨l0, c0a, c0b⟩ := K5.out.get 0 rfl
      obtain ⟨l1, c1a, c1b⟩ := K5.out.get 1 rfl
      obtain ⟨l2, c2a, c2b⟩ := K5.out.get 2 rfl
      obtain ⟨l3, c3a, c3b⟩ := K5.out.get 3 rfl
      obtain ⟨l4, c4a, c4b⟩ := K5.out.get 4 rfl
      obtain ⟨l5, c5a, c5b⟩ := K5.out.get 5 rfl
      obtain ⟨l6, c6a, c6b⟩ := K5.out.get 6 rfl
      go_wp2_with fail
      refine (Hch.out _).mono ?_
      rintro e w' ⟨rfl, hb⟩
      have KX := Lib.hid ((K5.out.push na da 42).keep hb)
      clear hb
      go_wp2
      go_meet
      exact KX.out.tail
  case rest => as_aux_lemma =>
  have hK := hcut
  have KE := Lib.hid hK
  clear hK hcut
  clear l0 c0a c0b l1 c1a c1b l2 c2a c2b l3 c3a c3b l4 c4a c4b l5 c5a c5b l6 c6a c6b
  obtain ⟨l0, c0a, c0b⟩ := KE.out.get 0 rfl
  obtain ⟨l1, c1a, c1b⟩ := KE.out.get 1 rfl
  obtain ⟨l2, c2a, c2b⟩ := KE.out.get 2 rfl
  obtain ⟨l3, c3a, c3b⟩ := KE.out.get 3 rfl
  obtain ⟨l4, c4a, c4b⟩ := KE.out.get 4 rfl
  obtain ⟨l5, c5a, c5b⟩ := KE.out.get 5 rfl
  obtain ⟨l6, c6a, c6b⟩ := KE.out.get 6 rfl
  go_wp2_with fail
  refine (Hhx.out _).mono ?_
  rintro e w5 ⟨rfl, hb⟩
  have K5 := Lib.hid (KE.out.keep hb)
  clear hb
  clear l0 c0a c0b l1 c1a c1b l2 c2a c2b l3 c3a c3b l4 c4a c4b l5 c5a c5b l6 c6a c6b
  obtain ⟨l0, c0a, c0b⟩ := K5.out.get 0 rfl
  obtain ⟨l1, c1a, c1b⟩ := K5.out.get 1 rfl
  obtain ⟨l2, c2a, c2b⟩ := K5.out.get 2 rfl
  obtain ⟨l3, c3a, c3b⟩ := K5.out.get 3 rfl
  obtain ⟨l4, c4a, c4b⟩ := K5.out.get 4 rfl
  obtain ⟨l5, c5a, c5b⟩ := K5.out.get 5 rfl
  obtain ⟨l6, c6a, c6b⟩ := K5.out.get 6 rfl
  go_wp2_with fail
  refine (Hhy.out _).mono ?_
  rintro e w6 ⟨rfl, hb⟩
  have K6 := Lib.hid ((K5.out.push X1 X2 42).keep hb)
  clear hb
  clear l0 c0a c0b l1 c1a c1b l2 c2a c2b l3 c3a c3b l4 c4a c4b l5 c5a c5b l6 c6a c6b
  obtain ⟨l0, c0a, c0b⟩ := K6.out.get 0 rfl
  obtain ⟨l1, c1a, c1b⟩ := K6.out.get 1 rfl
  obtain ⟨l2, c2a, c2b⟩ := K6.out.get 2 rfl
  obtain ⟨l3, c3a, c3b⟩ := K6.out.get 3 rfl
  obtain ⟨l4, c4a, c4b⟩ := K6.out.get 4 rfl
  obtain ⟨l5, c5a, c5b⟩ := K6.out.get 5 rfl
  obtain ⟨l6, c6a, c6b⟩ := K6.out.get 6 rfl
  obtain ⟨l7, c7a, c7b⟩ := K6.out.get 7 rfl
  go_wp2_with fail
  refine (Hhz.out _).mono ?_
  rintro e w7 ⟨rfl, hb⟩
  have K7 := Lib.hid ((K6.out.push Y1 Y2 42).keep hb)
  clear hb
  clear l0 c0a c0b l1 c1a c1b l2 c2a c2b l3 c3a c3b l4 c4a c4b l5 c5a c5b l6 c6a c6b l7 c7a c7b
  obtain ⟨l0, c0a, c0b⟩ := K7.out.get 0 rfl
  obtain ⟨l1, c1a, c1b⟩ := K7.out.get 1 rfl
  obtain ⟨l2, c2a, c2b⟩ := K7.out.get 2 rfl
  obtain ⟨l3, c3a, c3b⟩ := K7.out.get 3 rfl
  obtain ⟨l4, c4a, c4b⟩ := K7.out.get 4 rfl
  obtain ⟨l5, c5a, c5b⟩ := K7.out.get 5 rfl
  obtain ⟨l6, c6a, c6b⟩ := K7.out.get 6 rfl
  obtain ⟨l7, c7a, c7b⟩ := K7.out.get 7 rfl
  obtain ⟨l8, c8a, c8b⟩ := K7.out.get 8 rfl
  go_wp2_with fail
  refine (Hhs.out _).mono ?_
  rintro e w8 ⟨rfl, hb⟩
  have K8 := Lib.hid ((K7.out.push Z1 Z2 42).keep hb)
  clear hb
  clear l0 c0a c0b l1 c1a c1b l2 c2a c2b l3 c3a c3b l4 c4a c4b l5 c5a c5b l6 c6a c6b l7 c7a c7b l8 c8a c8b
  obtain ⟨l0, c0a, c0b⟩ := K8.out.get 0 rfl
  obtain ⟨l1, c1a, c1b⟩ := K8.out.get 1 rfl
  obtain ⟨l2, c2a, c2b⟩ := K8.out.get 2 rfl
  obtain ⟨l3, c3a, c3b⟩ := K8.out.get 3 rfl
  obtain ⟨l4, c4a, c4b⟩ := K8.out.get 4 rfl
  obtain ⟨l5, c5a, c5b⟩ := K8.out.get 5 rfl
  obtain ⟨l6, c6a, c6b⟩ := K8.out.get 6 rfl
  obtain ⟨l7, c7a, c7b⟩ := K8.out.get 7 rfl
  obtain ⟨l8, c8a, c8b⟩ := K8.out.get 8 rfl
  obtain ⟨l9, c9a, c9b⟩ := K8.out.get 9 rfl
  go_upto_region 19 with fail
  have KF := Lib.hid (K8.out.push S1 S2 42)
  generalize w8.alloc (.cells #[.int .i64 S1, .int .i64 S2] 42) = WKF at KF ⊢
  clear l0 c0a c0b l1 c1a c1b l2 c2a c2b l3 c3a c3b l4 c4a c4b l5 c5a c5b l6 c6a c6b l7 c7a c7b l8 c8a c8b l9 c9a c9b
  obtain ⟨l0, c0a, c0b⟩ := KF.out.get 0 rfl
  obtain ⟨l1, c1a, c1b⟩ := KF.out.get 1 rfl
  obtain ⟨l2, c2a, c2b⟩ := KF.out.get 2 rfl
  obtain ⟨l3, c3a, c3b⟩ := KF.out.get 3 rfl
  obtain ⟨l4, c4a, c4b⟩ := KF.out.get 4 rfl
  obtain ⟨l5, c5a, c5b⟩ := KF.out.get 5 rfl
  obtain ⟨l6, c6a, c6b⟩ := KF.out.get 6 rfl
  obtain ⟨l7, c7a, c7b⟩ := KF.out.get 7 rfl
  obtain ⟨l8, c8a, c8b⟩ := KF.out.get 8 rfl
  obtain ⟨l9, c9a, c9b⟩ := KF.out.get 9 rfl
  obtain ⟨l10, c10a, c10b⟩ := KF.out.get 10 rfl
  go_cut [176] (fun t wx => t = .bool false ∧ WKF = wx)
  case first => as_aux_lemma =>
    by_cases qAe : Ae = 0
    · subst qAe
      by_cases qXe : Xe = 0
      · subst qXe
        by_cases qYe : Ye = 0
        · subst qYe
          by_cases qZe : Ze = 0
          · subst qZe
            by_cases qSe : Se = 0
            · obtain ⟨e1, e2⟩ := Hf4.out rfl rfl rfl rfl qSe; subst qSe; subst e1; subst e2; go_wp2; go_meet; exact ⟨rfl, rfl⟩
            · have qn : (Se == 0) = false := by simpa using qSe
              clear qSe
              go_wp2
              go_meet
              exact ⟨rfl, rfl⟩
          · have qn : (Ze == 0) = false := by simpa using qZe
            clear qZe
            go_wp2
            go_meet
            exact ⟨rfl, rfl⟩
        · have qn : (Ye == 0) = false := by simpa using qYe
          clear qYe
          go_wp2
          go_meet
          exact ⟨rfl, rfl⟩
      · have qn : (Xe == 0) = false := by simpa using qXe
        clear qXe
        go_wp2
        go_meet
        exact ⟨rfl, rfl⟩
    · have qn : (Ae == 0) = false := by simpa using qAe
      clear qAe
      go_wp2
      go_meet
      exact ⟨rfl, rfl⟩
  case rest => as_aux_lemma =>
  obtain ⟨rfl, rfl⟩ := hcut
  go_wp2_with fail
  refine (Hhbc.out _).mono ?_
  rintro e w9 ⟨rfl, hb⟩
  have K9 := Lib.hid (KF.out.keep hb)
  clear hb
  clear l0 c0a c0b l1 c1a c1b l2 c2a c2b l3 c3a c3b l4 c4a c4b l5 c5a c5b l6 c6a c6b l7 c7a c7b l8 c8a c8b l9 c9a c9b l10 c10a c10b
  obtain ⟨l0, c0a, c0b⟩ := K9.out.get 0 rfl
  obtain ⟨l1, c1a, c1b⟩ := K9.out.get 1 rfl
  obtain ⟨l2, c2a, c2b⟩ := K9.out.get 2 rfl
  obtain ⟨l3, c3a, c3b⟩ := K9.out.get 3 rfl
  obtain ⟨l4, c4a, c4b⟩ := K9.out.get 4 rfl
  obtain ⟨l5, c5a, c5b⟩ := K9.out.get 5 rfl
  obtain ⟨l6, c6a, c6b⟩ := K9.out.get 6 rfl
  obtain ⟨l7, c7a, c7b⟩ := K9.out.get 7 rfl
  obtain ⟨l8, c8a, c8b⟩ := K9.out.get 8 rfl
  obtain ⟨l9, c9a, c9b⟩ := K9.out.get 9 rfl
  obtain ⟨l10, c10a, c10b⟩ := K9.out.get 10 rfl
  go_wp2_with fail
  refine (Hhl.out _).mono ?_
  rintro e w10 ⟨rfl, hb⟩
  have K10 := Lib.hid ((K9.out.push M1 M2 42).keep hb)
  clear hb
  clear l0 c0a c0b l1 c1a c1b l2 c2a c2b l3 c3a c3b l4 c4a c4b l5 c5a c5b l6 c6a c6b l7 c7a c7b l8 c8a c8b l9 c9a c9b l10 c10a c10b
  obtain ⟨l0, c0a, c0b⟩ := K10.out.get 0 rfl
  obtain ⟨l1, c1a, c1b⟩ := K10.out.get 1 rfl
  obtain ⟨l2, c2a, c2b⟩ := K10.out.get 2 rfl
  obtain ⟨l3, c3a, c3b⟩ := K10.out.get 3 rfl
  obtain ⟨l4, c4a, c4b⟩ := K10.out.get 4 rfl
  obtain ⟨l5, c5a, c5b⟩ := K10.out.get 5 rfl
  obtain ⟨l6, c6a, c6b⟩ := K10.out.get 6 rfl
  obtain ⟨l7, c7a, c7b⟩ := K10.out.get 7 rfl
  obtain ⟨l8, c8a, c8b⟩ := K10.out.get 8 rfl
  obtain ⟨l9, c9a, c9b⟩ := K10.out.get 9 rfl
  obtain ⟨l10, c10a, c10b⟩ := K10.out.get 10 rfl
  obtain ⟨l11, c11a, c11b⟩ := K10.out.get 11 rfl
  go_wp2_with fail
  refine (Hhr.out _).mono ?_
  rintro e w11 ⟨rfl, hb⟩
  have K11 := Lib.hid ((K10.out.push L1 L2 42).keep hb)
  clear hb
  clear l0 c0a c0b l1 c1a c1b l2 c2a c2b l3 c3a c3b l4 c4a c4b l5 c5a c5b l6 c6a c6b l7 c7a c7b l8 c8a c8b l9 c9a c9b l10 c10a c10b l11 c11a c11b
  obtain ⟨l0, c0a, c0b⟩ := K11.out.get 0 rfl
  obtain ⟨l1, c1a, c1b⟩ := K11.out.get 1 rfl
  obtain ⟨l2, c2a, c2b⟩ := K11.out.get 2 rfl
  obtain ⟨l3, c3a, c3b⟩ := K11.out.get 3 rfl
  obtain ⟨l4, c4a, c4b⟩ := K11.out.get 4 rfl
  obtain ⟨l5, c5a, c5b⟩ := K11.out.get 5 rfl
  obtain ⟨l6, c6a, c6b⟩ := K11.out.get 6 rfl
  obtain ⟨l7, c7a, c7b⟩ := K11.out.get 7 rfl
  obtain ⟨l8, c8a, c8b⟩ := K11.out.get 8 rfl
  obtain ⟨l9, c9a, c9b⟩ := K11.out.get 9 rfl
  obtain ⟨l10, c10a, c10b⟩ := K11.out.get 10 rfl
  obtain ⟨l11, c11a, c11b⟩ := K11.out.get 11 rfl
  obtain ⟨l12, c12a, c12b⟩ := K11.out.get 12 rfl
  go_upto_region 24 with fail
  have KG := Lib.hid (K11.out.push R1 R2 42)
  generalize w11.alloc (.cells #[.int .i64 R1, .int .i64 R2] 42) = WKG at KG ⊢
  clear l0 c0a c0b l1 c1a c1b l2 c2a c2b l3 c3a c3b l4 c4a c4b l5 c5a c5b l6 c6a c6b l7 c7a c7b l8 c8a c8b l9 c9a c9b l10 c10a c10b l11 c11a c11b l12 c12a c12b
  obtain ⟨l0, c0a, c0b⟩ := KG.out.get 0 rfl
  obtain ⟨l1, c1a, c1b⟩ := KG.out.get 1 rfl
  obtain ⟨l2, c2a, c2b⟩ := KG.out.get 2 rfl
  obtain ⟨l3, c3a, c3b⟩ := KG.out.get 3 rfl
  obtain ⟨l4, c4a, c4b⟩ := KG.out.get 4 rfl
  obtain ⟨l5, c5a, c5b⟩ := KG.out.get 5 rfl
  obtain ⟨l6, c6a, c6b⟩ := KG.out.get 6 rfl
  obtain ⟨l7, c7a, c7b⟩ := KG.out.get 7 rfl
  obtain ⟨l8, c8a, c8b⟩ := KG.out.get 8 rfl
  obtain ⟨l9, c9a, c9b⟩ := KG.out.get 9 rfl
  obtain ⟨l10, c10a, c10b⟩ := KG.out.get 10 rfl
  obtain ⟨l11, c11a, c11b⟩ := KG.out.get 11 rfl
  obtain ⟨l12, c12a, c12b⟩ := KG.out.get 12 rfl
  obtain ⟨l13, c13a, c13b⟩ := KG.out.get 13 rfl
  by_cases qAe : Ae = 0
  · subst qAe
    by_cases qMe : Me = 0
    · subst qMe
      by_cases qLe : Le = 0
      · subst qLe
        by_cases qRe : Re = 0
        · obtain ⟨e1, e2⟩ := Hf5.out rfl rfl rfl qRe
          subst qRe; subst e1; subst e2
          go_wp2_with fail
          refine (awakeR_any _).mono ?_
          rintro e w' ⟨rfl, hb⟩
          have KX := Lib.hid (KG.out.keep hb)
          clear hb
          go_wp2
          go_ret
          exact ⟨rfl, KX.out.bel⟩
        · have qn : (Re == 0) = false := by simpa using qRe
          have qm : (Re != 0) = true := by simpa using qRe
          clear qRe
          go_wp2_with fail
          refine (awakeR_any _).mono ?_
          rintro e w' ⟨rfl, hb⟩
          have KX := Lib.hid (KG.out.keep hb)
          clear hb
          go_wp2
          go_ret
          exact ⟨rfl, KX.out.bel⟩
      · have qn : (Le == 0) = false := by simpa using qLe
        have qm : (Le != 0) = true := by simpa using qLe
        clear qLe
        go_wp2_with fail
        refine (awakeR_any _).mono ?_
        rintro e w' ⟨rfl, hb⟩
        have KX := Lib.hid (KG.out.keep hb)
        clear hb
        go_wp2
        go_ret
        exact ⟨rfl, KX.out.bel⟩
    · have qn : (Me == 0) = false := by simpa using qMe
      have qm : (Me != 0) = true := by simpa using qMe
      clear qMe
      go_wp2_with fail
      refine (awakeR_any _).mono ?_
      rintro e w' ⟨rfl, hb⟩
      have KX := Lib.hid (KG.out.keep hb)
      clear hb
      go_wp2
      go_ret
      exact ⟨rfl, KX.out.bel⟩
  · have qn : (Ae == 0) = false := by simpa using qAe
    have qm : (Ae != 0) = true := by simpa using qAe
    clear qAe
    go_wp2_with fail
    refine (awakeR_any _).mono ?_
    rintro e w' ⟨rfl, hb⟩
    have KX := Lib.hid (KG.out.keep hb)
    clear hb
    go_wp2
    go_ret
    exact ⟨rfl, KX.out.bel⟩

end Go.Proofs.Ytljhjjkbpckkjaa

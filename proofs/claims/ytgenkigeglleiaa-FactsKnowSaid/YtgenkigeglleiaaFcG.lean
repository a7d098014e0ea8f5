/-
  chattellaw07.FactsFirst: its walk.
-/
import Derived.Test.YtgenkigeglleiaaFcF
namespace Go.Proofs.Ytgenkigeglleiaa
open Go.RowKit Go.Lib Go.Maps
set_option linter.unusedVariables false
set_option linter.unusedSimpArgs false

theorem AllOf.has {D : DataW Unit} {ps : List Ent} (h : AllOf D ps) {t : Ent} (ht : t ∈ ps) : Maps.has D (entK t) = true := has_true_of_atKey (h.val t ht)
theorem AllOf.mem {D : DataW Unit} {ps ps' : List Ent} (h : AllOf D ps) (h' : AllOf D ps') {t : Ent} (ht : t ∈ ps) : t ∈ ps' := by
  have hk := h.has ht
  rcases h'.all _ hk with e | ⟨u, hu, e⟩
  · cases e
  · obtain ⟨a1, a2, a3⟩ := h.ok t ht
    obtain ⟨b1, b2, b3⟩ := h'.ok u hu
    obtain ⟨e1, e2⟩ := plk_inj b1 b2 a1 a2 e
    have v1 := h.val t ht (intD 0)
    have v2 := h'.val u hu (intD 0)
    rw [e, v1] at v2
    have e3 := intD_inj v2
    have : u = t := by
      obtain ⟨x, y, z⟩ := t
      obtain ⟨x', y', z'⟩ := u
      dsimp only at e1 e2 e3
      rw [e1, e2, e3]
    rw [← this]; exact hu
/-- The first day of all days, and those of two parts of them. -/
theorem fst_parts {D : DataW Unit} {ps qs rs : List Ent} (hp : AllOf D ps) (hq : AllOf D qs) (hr : AllOf D rs) {k p t0 t1 t2 d a b : Int} {is al tw : Bool} (h : FstA ps k t0 t2 p d is) (h1 : FstA qs k t0 t1 p a al) (h2 : FstA rs k (t1 + 1) t2 p b tw) (h01 : t0 ≤ t1) (h12 : t1 < t2) :
    (al = true → is = true ∧ d = a) ∧ (al = false → tw = true → is = true ∧ d = b) ∧ (al = false → tw = false → is = false ∧ d = 0) := by
  have key : is = true → (d ≤ t1 → al = true ∧ a ≤ d) ∧ (¬ d ≤ t1 → tw = true ∧ b ≤ d) := fun hi => by
    obtain ⟨t, ht, e1, e2, e3, e4, e5⟩ := h.yes hi
    refine ⟨fun hd => ?_, fun hd => ?_⟩
    · obtain ⟨g1, g2⟩ := h1.low t (hp.mem hq ht) e1 e2 e3 (by omega)
      exact ⟨g1, by omega⟩
    · obtain ⟨g1, g2⟩ := h2.low t (hp.mem hr ht) e1 e2 (by omega) e4
      exact ⟨g1, by omega⟩
  refine ⟨fun ha => ?_, fun ha hb => ?_, fun ha hb => ?_⟩
  · obtain ⟨t, ht, e1, e2, e3, e4, e5⟩ := h1.yes ha
    obtain ⟨g1, g2⟩ := h.low t (hq.mem hp ht) e1 e2 e3 (by omega)
    have := key g1
    by_cases hd : d ≤ t1
    · have := (this.1 hd).2
      exact ⟨g1, by omega⟩
    · exact ⟨g1, by omega⟩
  · obtain ⟨t, ht, e1, e2, e3, e4, e5⟩ := h2.yes hb
    obtain ⟨g1, g2⟩ := h.low t (hr.mem hp ht) e1 e2 (by omega) e4
    have := key g1
    by_cases hd : d ≤ t1
    · have := (this.1 hd).1
      rw [ha] at this; cases this
    · have := (this.2 hd).2
      exact ⟨g1, by omega⟩
  · cases hi : is with
    | false => exact ⟨rfl, h.no hi⟩
    | true =>
      have := key hi
      by_cases hd : d ≤ t1
      · have := (this.1 hd).1
        rw [ha] at this; cases this
      · have := (this.2 hd).1
        rw [hb] at this; cases this
/-- What the choice at the first day is. -/
theorem fst_choice {D : DataW Unit} {ps : List Ent} (hp : AllOf D ps) {k p f u d : Int} {is : Bool} (h : FstA ps k f u p d is) (hi : is = true) : I64 d ∧ f ≤ d ∧ d ≤ u ∧ Maps.has D (plk k d) = true ∧ ∀ x, D.atKey (plk k d) (intD 0) = intD x → x = p := by
  obtain ⟨t, ht, rfl, rfl, e3, e4, rfl⟩ := h.yes hi
  refine ⟨(hp.ok t ht).2.1, e3, e4, hp.has ht, fun x hx => ?_⟩
  have := hp.val t ht (intD 0)
  unfold entK at this
  rw [hx] at this
  exact intD_inj this
/-- The arrays that came in, boxed. -/
structure ArrB (W : World) (z : Nat) (a b c d e : Int) : Prop where
  c0 : W.cell? ⟨z, 0, none⟩ = some (.int .i64 a)
  c1 : W.cell? ⟨z, 1, none⟩ = some (.int .i64 b)
  d0 : W.cell? ⟨z + 1, 0, none⟩ = some (.int .i64 c)
  d1 : W.cell? ⟨z + 1, 1, none⟩ = some (.int .i64 d)
  d2 : W.cell? ⟨z + 1, 2, none⟩ = some (.int .i64 e)
theorem ArrB.keep {W W' : World} {z : Nat} {a b c d e : Int} (h : ArrB W z a b c d e) (hb : Below W.heap.size W W') : ArrB W' z a b c d e :=
  ⟨keepF hb h.c0, keepF hb h.c1, keepF hb h.d0, keepF hb h.d1, keepF hb h.d2⟩
theorem arrB_new (w : World) (a b c d e : Int) : ArrB ((w.alloc (.cells #[.int .i64 a, .int .i64 b] 58)).alloc (.cells #[.int .i64 c, .int .i64 d, .int .i64 e] 69)) w.heap.size a b c d e := by
  refine ⟨keepF (newF _ _) ?_, keepF (newF _ _) ?_, ?_, ?_, ?_⟩
  · rw [World.cell?_alloc_at _ _ _ _ rfl]; rfl
  · rw [World.cell?_alloc_at _ _ _ _ rfl]; rfl
  · rw [World.cell?_alloc_at _ _ _ _ (by simp)]; rfl
  · rw [World.cell?_alloc_at _ _ _ _ (by simp)]; rfl
  · rw [World.cell?_alloc_at _ _ _ _ (by simp)]; rfl

set_option maxRecDepth 100000 in
set_option maxHeartbeats 8000000 in
theorem ffirst_walk (w : World) (v : Value) (L : List Tol) (h : SlTol w v L) (hok : ∀ j, j < L.length → (L.getD j default).Ok) (k p t0 t1 t2 : Int) (hk : I64 k) (h0 : I64 t0) (h1 : I64 t1) (h2 : I64 t2) :
    Calls Try.prog 8 #[v, .agg #[.int .i64 k, .int .i64 p], .agg #[.int .i64 t0, .int .i64 t1, .int .i64 t2]] w fun e w' => e = .returned (.bool true) ∧ Below w.heap.size w w' := by
  have hbw := onF (newF w (.cells #[.int .i64 k, .int .i64 p] 58)) (newF (w.alloc (.cells #[.int .i64 k, .int .i64 p] 58)) (.cells #[.int .i64 t0, .int .i64 t1, .int .i64 t2] 69))
  have HB0 := Lib.hid hbw
  have HA0 := Lib.hid (arrB_new w k p t0 t1 t2)
  have HMd := Lib.hid (made_any _ v L (h.keep hbw) hok)
  have HAw := Lib.hid (fun w' : World => awake7_any w')
  have HFi := Lib.hid (fun (w' : World) (B bf bc n : Nat) (Df Dc : DataW Unit) (hm : FacM w' B bf bc n Df Dc) (f u : Int) => first_any w' hm k f u p)
  have HCh := Lib.hid (fun (w' : World) (B bf bc n : Nat) (Df Dc : DataW Unit) (hm : FacM w' B bf bc n Df Dc) (d : Int) (hd : I64 d) => choice_any w' hm k d hk hd)
  obtain ⟨va, vc, rfl⟩ : ∃ a c, v = .slice a L.length c := by
    rcases h with ⟨rfl, a, c, rfl⟩ | ⟨_, b, o, c, rfl, _⟩
    · exact ⟨a, c, rfl⟩
    · exact ⟨_, _, rfl⟩
  have HI := Lib.hid (And.intro h0 (And.intro h1 h2))
  clear h hok hbw h0 h1 h2 hk
  go_enter Try.func8, Try.ntmps8
  go_wp2_with fail
  generalize (w.alloc (.cells #[.int .i64 k, .int .i64 p] 58)).alloc (.cells #[.int .i64 t0, .int .i64 t1, .int .i64 t2] 69) = W0 at *
  refine (HMd.out).mono ?_
  rintro e w1 ⟨B, bf, bc, rfl, hm, hB, hbf, hbc, hb1⟩
  have HM1 := Lib.hid hm
  have HB1 := Lib.hid (onF HB0.out hb1)
  have HA1 := Lib.hid (HA0.out.keep hb1)
  clear hm hB hbf hbc hb1 HMd HB0 HA0
  obtain ⟨c0, c1, d0, d1, d2⟩ := HA1.out
  by_cases a1 : 60 < L.length
  · have i1 : (60 : Int) < (L.length : Int) := by omega
    clear a1
    go_wp2_with fail
    refine (HAw.out _).mono ?_
    rintro e w2 ⟨rfl, hb2⟩
    have HB2 := Lib.hid (onF HB1.out hb2)
    clear hb2
    go_wp2_with fail
    go_ret
    exact ⟨rfl, HB2.out⟩
  have i1 : ¬ (60 : Int) < (L.length : Int) := by omega
  clear a1
  by_cases a2 : t1 < t0
  · go_wp2_with fail
    refine (HAw.out _).mono ?_
    rintro e w2 ⟨rfl, hb2⟩
    have HB2 := Lib.hid (onF HB1.out hb2)
    clear hb2
    go_wp2_with fail
    go_ret
    exact ⟨rfl, HB2.out⟩
  by_cases a3 : t2 ≤ t1
  · go_wp2_with fail
    refine (HAw.out _).mono ?_
    rintro e w2 ⟨rfl, hb2⟩
    have HB2 := Lib.hid (onF HB1.out hb2)
    clear hb2
    go_wp2_with fail
    go_ret
    exact ⟨rfl, HB2.out⟩
  have n1 : t1 + 1 ≤ 9223372036854775807 := by have := HI.out.2.2.2; omega
  have n2 : -9223372036854775808 ≤ t1 + 1 := by have := HI.out.2.1.1; omega
  have H01 := Lib.hid (show t0 ≤ t1 by omega)
  have H12 := Lib.hid (show t1 < t2 by omega)
  go_wp2_with fail
  refine (HFi.out w1 B bf bc _ _ _ HM1.out t0 t2).mono ?_
  rintro e w2 ⟨ps, d, is, rfl, hal, hf, hb2⟩
  have hal0 := Lib.hid hal
  have hf0 := Lib.hid hf
  have HM2 := Lib.hid (HM1.out.keep hb2)
  have HB2 := Lib.hid (onF HB1.out hb2)
  have HA2 := Lib.hid (HA1.out.keep hb2)
  clear hal hf hb2 c0 c1 d0 d1 d2 HM1 HB1 HA1 a2 a3 i1
  obtain ⟨c0, c1, d0, d1, d2⟩ := HA2.out
  go_wp2_with fail
  refine (HFi.out w2 B bf bc _ _ _ HM2.out t0 t1).mono ?_
  rintro e w3 ⟨qs, a, al, rfl, hal, hf, hb2⟩
  have hal1 := Lib.hid hal
  have hf1 := Lib.hid hf
  have HM3 := Lib.hid (HM2.out.keep hb2)
  have HB3 := Lib.hid (onF HB2.out hb2)
  have HA3 := Lib.hid (HA2.out.keep hb2)
  clear hal hf hb2 c0 c1 d0 d1 d2 HM2 HB2 HA2
  obtain ⟨c0, c1, d0, d1, d2⟩ := HA3.out
  go_wp2_with fail
  refine (HFi.out w3 B bf bc _ _ _ HM3.out (t1 + 1) t2).mono ?_
  rintro e w4 ⟨rs, b, tw, rfl, hal, hf, hb2⟩
  have HP := Lib.hid (fst_parts hal0.out hal1.out hal hf0.out hf1.out hf H01.out H12.out)
  have HM4 := Lib.hid (HM3.out.keep hb2)
  have HB4 := Lib.hid (onF HB3.out hb2)
  have HA4 := Lib.hid (HA3.out.keep hb2)
  clear hal hf hb2 c0 c1 d0 d1 d2 HM3 HB3 HA3 HFi hal1 hf1 n1 n2
  obtain ⟨c0, c1, d0, d1, d2⟩ := HA4.out
  cases al with
  | true =>
    obtain ⟨hi, hda⟩ := HP.out.1 rfl
    subst hi hda
    clear HP
    obtain ⟨hd64, l1, l2, hhas, hval⟩ := fst_choice hal0.out hf0.out rfl
    have HV := Lib.hid hval
    have HCc := Lib.hid (HCh.out w4 B bf bc _ _ _ HM4.out d hd64)
    rw [hhas] at HCc
    clear hd64 hhas hval hal0 hf0 HCh HM4
    go_wp2_with fail
    refine (HCc.out).mono ?_
    rintro e w5 ⟨x, rfl, hx, hb5⟩
    obtain rfl := HV.out x hx
    have HB5 := Lib.hid (onF HB4.out hb5)
    obtain ⟨c0, c1, d0, d1, d2⟩ := HA4.out.keep hb5
    clear hx hb5 HCc HV HB4 HA4
    go_wp2_with fail
    refine (HAw.out _).mono ?_
    rintro e w6 ⟨rfl, hb6⟩
    have HB6 := Lib.hid (onF HB5.out hb6)
    clear hb6
    go_wp2_with fail
    go_ret
    exact ⟨rfl, HB6.out⟩
  | false =>
    cases tw with
    | true =>
      obtain ⟨hi, hda⟩ := HP.out.2.1 rfl rfl
      subst hi hda
      clear HP
      obtain ⟨hd64, l1, l2, hhas, hval⟩ := fst_choice hal0.out hf0.out rfl
      have HV := Lib.hid hval
      have HCc := Lib.hid (HCh.out w4 B bf bc _ _ _ HM4.out d hd64)
      rw [hhas] at HCc
      clear hd64 hhas hval hal0 hf0 HCh HM4
      go_wp2_with fail
      refine (HCc.out).mono ?_
      rintro e w5 ⟨x, rfl, hx, hb5⟩
      obtain rfl := HV.out x hx
      have HB5 := Lib.hid (onF HB4.out hb5)
      obtain ⟨c0, c1, d0, d1, d2⟩ := HA4.out.keep hb5
      clear hx hb5 HCc HV HB4 HA4
      go_wp2_with fail
      refine (HAw.out _).mono ?_
      rintro e w6 ⟨rfl, hb6⟩
      have HB6 := Lib.hid (onF HB5.out hb6)
      clear hb6
      go_wp2_with fail
      go_ret
      exact ⟨rfl, HB6.out⟩
    | false =>
      obtain ⟨hi, hda⟩ := HP.out.2.2 rfl rfl
      subst hi hda
      clear HP
      go_wp2_with fail
      refine (HAw.out _).mono ?_
      rintro e w6 ⟨rfl, hb6⟩
      have HB6 := Lib.hid (onF HB4.out hb6)
      clear hb6
      go_wp2_with fail
      go_ret
      exact ⟨rfl, HB6.out⟩

end Go.Proofs.Ytgenkigeglleiaa

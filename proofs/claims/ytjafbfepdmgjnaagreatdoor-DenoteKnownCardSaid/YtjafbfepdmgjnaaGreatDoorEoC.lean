/-
  chattellaw09.DenoteKnown: its walk.
-/
import Derived.Test.YtjafbfepdmgjnaaGreatDoorEoB
namespace Go.Proofs.YtjafbfepdmgjnaaGreatDoor
open Go.RowKit Go.Lib Go.Shelf Go.Maps
set_option linter.unusedVariables false
set_option linter.unusedSimpArgs false

theorem choice_k (w : World) {B bf bc n : Nat} {Df Dc : DataW Unit} (h : FacM w B bf bc n Df Dc) {lc : List Fct} (hr : RelV vI Dc lc) (k d : Int) (hk : I64 k) (hd : I64 d) :
    Calls Tryz.prog 23 #[.pointer (some ⟨B, 0, none⟩), .int .i64 k, .int .i64 d] w fun e w' => (∃ x, e = .returned (.tuple #[.int .i64 x, .bool (lc.find? (isG k d)).isSome])) ∧ Below w.heap.size w w' := by
  refine (choice_any w h k d hk hd).mono ?_
  rintro e w' ⟨x, rfl, hx, hb⟩
  obtain ⟨g1, g2⟩ := know_getE hr hk hd (intD 0)
  refine ⟨⟨x, ?_⟩, hb⟩
  cases hf : lc.find? (isG k d) with
  | none => rw [(g2 hf).1]; rfl
  | some t => rw [(g1 t hf).1]; rfl
/-- An Any of a key stands among the first nodes. -/
def anyK (t : List Nd) (k : Int) (n : Nat) : Bool := (List.range n).any fun p => decide (opA t p = 17) && decide (aA t p = k)
theorem anyK_succ (t : List Nd) (k : Int) (n : Nat) : anyK t k (n + 1) = (anyK t k n || (decide (opA t n = 17) && decide (aA t n = k))) := by
  unfold anyK
  rw [List.range_succ, List.any_append]
  simp
theorem anyK_no {t : List Nd} {k : Int} (h : anyK t k t.length = false) : ∀ p, p < t.length → opA t p = 17 → aA t p ≠ k := fun p hp ho e => by
  have := List.any_eq_false.1 h p (List.mem_range.2 hp)
  simp [ho, e] at this

/-- Facts that are told more, and flows that are kept aside. -/
structure KnS (w0 wx : World) (B bf bc n : Nat) (t : List Nd) (lf lc : List Fct) (base : Nat) (va : Value) (ma : List Flw) : Prop where
  fac : ∃ D Dc lf' lc', FacM wx B bf bc n D Dc ∧ RelV vR D lf' ∧ RelV vI Dc lc' ∧ OkL lf' ∧ (∀ x ∈ lc', x.p = 1 ∨ x.p = 2) ∧ (envL lf lc).More (envL lf' lc') t
  bel : Below w0.heap.size w0 wx
  row : OwnX flL 3 50 wx base va ma
theorem KnS.keep {w0 wx wy : World} {B bf bc n base : Nat} {t : List Nd} {lf lc : List Fct} {va : Value} {ma : List Flw} (h : KnS w0 wx B bf bc n t lf lc base va ma) (hb : Below wx.heap.size wx wy) : KnS w0 wy B bf bc n t lf lc base va ma := by
  obtain ⟨D, Dc, l', m', h1, h2⟩ := h.fac
  exact ⟨⟨D, Dc, l', m', h1.keep hb, h2⟩, onF h.bel hb, h.row.grown hb⟩
theorem KnS.up {w0 wx : World} {B bf bc n base : Nat} {t : List Nd} {lf lc : List Fct} {va : Value} {ma : List Flw} (h : KnS w0 wx B bf bc n t lf lc base va ma) : KnS w0 wx B bf bc (n + 1) t lf lc base va ma := by
  obtain ⟨D, Dc, l', m', h1, h2⟩ := h.fac
  exact ⟨⟨D, Dc, l', m', h1.mono (by omega), h2⟩, h.bel, h.row⟩
theorem KnS.tell {w0 wx wy : World} {B bf bc n base : Nat} {t : List Nd} {lf lc : List Fct} {va : Value} {ma : List Flw} (h : KnS w0 wx B bf bc n t lf lc base va ma) {row : Option Nat} (hg : wx.grownBy wy row) (hrow : row = some bf ∨ row = some bc) (hz : w0.heap.size ≤ bf ∧ w0.heap.size ≤ bc) (hx : bf < base ∧ bc < base)
    {D Dc : DataW Unit} {lf' lc' : List Fct} (hm : FacM wy B bf bc (n + 1) D Dc) (hr : RelV vR D lf') (hc : RelV vI Dc lc') (hO : OkL lf') (hP : ∀ x ∈ lc', x.p = 1 ∨ x.p = 2) (hM : (envL lf lc).More (envL lf' lc') t) : KnS w0 wy B bf bc (n + 1) t lf lc base va ma := by
  refine ⟨⟨D, Dc, lf', lc', hm, hr, hc, hO, hP, hM⟩, h.bel.grown hg h.bel.size (fun k hk => by rcases hrow with h | h <;> (rw [h] at hk; injection hk with hk; omega)), h.row.kept hg (.inr fun e => ?_)⟩
  rcases hrow with hr | hr
  · have := (h.row.lt bf (e.trans hr)).1; omega
  · have := (h.row.lt bc (e.trans hr)).1; omega

set_option maxRecDepth 100000 in
set_option maxHeartbeats 4000000 in
theorem known_walk (w : World) (t : List Nd) (hbd : BdT t) (v0 : Value) (h0 : SlT w v0 t) (fr tu : Int) (L : List Tol) (s1 : Value) (h1 : SlTol w s1 L) (hok1 : ∀ j, j < L.length → (L.getD j default).Ok)
    (L2 : List Tol) (s2 : Value) (h2 : SlTol w s2 L2) (hok2 : ∀ j, j < L2.length → (L2.getD j default).Ok) (C : KndW w) :
    Calls Tryz.prog 7 #[.agg #[v0, .int .i64 fr, .int .i64 tu, s1], s2] w fun e w' => e = .returned (.bool true) ∧ Below w.heap.size w w' := by
  obtain ⟨a0, c0, rfl⟩ := h0.slice
  obtain ⟨a1, c1, rfl⟩ : ∃ a c, s1 = .slice a L.length c := by
    rcases h1 with ⟨rfl, a, c, rfl⟩ | ⟨_, b, o, c, rfl, _⟩
    · exact ⟨_, _, rfl⟩
    · exact ⟨_, _, rfl⟩
  obtain ⟨a2, c2, rfl⟩ : ∃ a c, s2 = .slice a L2.length c := by
    rcases h2 with ⟨rfl, a, c, rfl⟩ | ⟨_, b, o, c, rfl, _⟩
    · exact ⟨_, _, rfl⟩
    · exact ⟨_, _, rfl⟩
  have HAw := Lib.hid (fun (w' : World) (hb : Below w.heap.size w w') => awake9_any w' (C.keep hb))
  have hb0 := newF w (.cells #[.slice a0 t.length c0, .int .i64 fr, .int .i64 tu, .slice a1 L.length c1] 25)
  have rr : ∀ k v, (#[.slice a0 t.length c0, .int .i64 fr, .int .i64 tu, .slice a1 L.length c1] : Array Value)[k]? = some v → (w.alloc (.cells #[.slice a0 t.length c0, .int .i64 fr, .int .i64 tu, .slice a1 L.length c1] 25)).cell? ⟨w.heap.size, k, none⟩ = some v := fun k v hv => by rw [World.cell?_alloc_at _ _ _ _ rfl]; exact hv
  have r0 := rr 0 (.slice a0 t.length c0) rfl
  have r1 := rr 1 (.int .i64 fr) rfl
  have r2 := rr 2 (.int .i64 tu) rfl
  have r3 := rr 3 (.slice a1 L.length c1) rfl
  have HR := Lib.hid (And.intro r0 (And.intro r1 (And.intro r2 r3)))
  have HB0 := Lib.hid hb0
  have HS := Lib.hid (And.intro (h0.keep hb0) (And.intro (h1.keep hb0) (And.intro (h2.keep hb0) (C.keep hb0))))
  have HMd := Lib.hid (fun (w' : World) (hs : SlTol w' (.slice a1 L.length c1) L) => made_any w' _ L hs hok1)
  have HFw := Lib.hid (fun (w' : World) => few_any w' a0 a1 t.length L.length c0 c1 fr tu)
  have hrel := rel_made L L.length (Nat.le_refl _) hok1
  rw [List.take_length] at hrel
  have HRel := Lib.hid (And.intro hrel.1 (And.intro hrel.2.1 (And.intro (plF_ok L (ok_mem hok1)) (plC_ok L))))
  have HBd := Lib.hid hbd
  have HOk := Lib.hid hok2
  obtain ⟨few, hfew⟩ : ∃ b, b = decide (t.length ≤ 100 ∧ L.length ≤ 60) := ⟨_, rfl⟩
  rw [← hfew] at HFw
  have HF := Lib.hid hfew
  clear hb0 rr r0 r1 r2 h0 h1 h2 hok1 hok2 C hbd hrel hfew
  go_enter Tryz.func7, Tryz.ntmps7
  go_wp2_with fail
  generalize w.alloc (.cells #[.slice a0 t.length c0, .int .i64 fr, .int .i64 tu, .slice a1 L.length c1] 25) = w0 at *
  refine (HMd.out _ HS.out.2.1).mono ?_
  rintro e w1 ⟨B, bf, bc, rfl, hm, hB, hbf, hbc, hb1⟩
  have HM := Lib.hid hm
  have HB1 := Lib.hid hb1
  have HZ := Lib.hid (And.intro hbf hbc)
  have HX := Lib.hid (And.intro hm.hf.lt hm.hc.lt)
  have r0 := keepF hb1 HR.out.1
  have r1 := keepF hb1 HR.out.2.1
  have r2 := keepF hb1 HR.out.2.2.1
  have r3 := keepF hb1 HR.out.2.2.2
  clear hm hB hbf hbc hb1 HMd
  go_wp2_with fail
  refine (HFw.out _).mono ?_
  rintro e w2 ⟨rfl, hb2⟩
  have HB2 := Lib.hid (onF HB1.out hb2)
  have HM2 := Lib.hid (HM.out.keep hb2)
  have HXX := Lib.hid (And.intro (Nat.lt_of_lt_of_le HX.out.1 hb2.size) (Nat.lt_of_lt_of_le HX.out.2 hb2.size))
  have r0 := keepF hb2 r0
  have r1 := keepF hb2 r1
  have r2 := keepF hb2 r2
  clear hb2 HFw HM HB1 HX r3
  cases few with
  | false =>
    clear r0 r1 r2
    go_wp2_with fail
    refine (HAw.out _ (onF HB0.out HB2.out)).mono ?_
    rintro e w3 ⟨rfl, hb3⟩
    have HB3 := Lib.hid (onF (onF HB0.out HB2.out) hb3)
    clear hb3
    go_wp2_with fail
    go_ret
    exact ⟨rfl, HB3.out⟩
  | true =>
    by_cases l1 : (40 : Int) < (L2.length : Int)
    · clear r0 r1 r2
      go_wp2_with fail
      refine (HAw.out _ (onF HB0.out HB2.out)).mono ?_
      rintro e w3 ⟨rfl, hb3⟩
      have HB3 := Lib.hid (onF (onF HB0.out HB2.out) hb3)
      clear hb3
      go_wp2_with fail
      go_ret
      exact ⟨rfl, HB3.out⟩
    have hl : t.length ≤ 100 ∧ L.length ≤ 60 := of_decide_eq_true HF.out.symm
    have HD := Lib.hid (And.intro l1 hl)
    have HFl := Lib.hid (fun (w' : World) (hb : Below w0.heap.size w0 w') (n : Nat) (D Dc : DataW Unit) (lf lc : List Fct) (hm : FacM w' B bf bc n D Dc) (hr : RelV vR D lf) (hc : RelV vI Dc lc) (ho : OkL lf) (hp : ∀ x ∈ lc, x.p = 1 ∨ x.p = 2) => flows_any w' t (by omega) HBd.out _ (HS.out.1.keep hb) (HS.out.2.2.2.keep hb) fr tu hm hr hc ho hp)
    have HWa := Lib.hid (fun (w' : World) (hb : Below w0.heap.size w0 w') (n : Nat) (D Dc : DataW Unit) (lf lc : List Fct) (hm : FacM w' B bf bc n D Dc) (hr : RelV vR D lf) (hc : RelV vI Dc lc) (ho : OkL lf) (hp : ∀ x ∈ lc, x.p = 1 ∨ x.p = 2) => waits_any w' t (by omega) HBd.out _ (HS.out.1.keep hb) (HS.out.2.2.2.keep hb) fr tu hm hr hc ho hp)
    have HF1 := Lib.hid (HFl.out w2 HB2.out _ _ _ _ _ HM2.out HRel.out.1 HRel.out.2.1 HRel.out.2.2.1 HRel.out.2.2.2)
    clear hl
    go_wp2_with fail
    refine HF1.out.mono ?_
    rintro e w3 ⟨hb3, va, ma, rfl, ho, hml, hsr, hne, hp⟩
    have HO := Lib.hid ho
    have HP := Lib.hid (And.intro hml (And.intro hsr (And.intro hne hp)))
    have HB3 := Lib.hid (onF HB2.out hb3)
    have HM3 := Lib.hid (HM2.out.keep hb3)
    obtain ⟨aa, ac, rfl⟩ := ho.slice
    have r0 := keepF hb3 r0
    have r1 := keepF hb3 r1
    have r2 := keepF hb3 r2
    have HF2 := Lib.hid (HWa.out w3 HB3.out _ _ _ _ _ HM3.out HRel.out.1 HRel.out.2.1 HRel.out.2.2.1 HRel.out.2.2.2)
    clear ho hml hsr hne hp hb3 HF1 HM2
    go_wp2_with fail
    refine HF2.out.mono ?_
    rintro e w4 ⟨hb4, vw, mw, rfl, ho, hml, hsr, _, hne, hp⟩
    have HPw := Lib.hid (And.intro hne hp)
    have HB4 := Lib.hid (onF HB3.out hb4)
    have HOa := Lib.hid (HO.out.grown hb4)
    have HM4 := Lib.hid (HM3.out.keep hb4)
    obtain ⟨wa, wn, wc, hwn, rfl⟩ : ∃ a n c, n = mw.length ∧ vw = .slice a n c := by
      obtain ⟨a, c, h⟩ := ho.slice
      exact ⟨a, _, c, rfl, h⟩
    have HWn := Lib.hid hwn
    clear ho hml hsr hne hp hb4 HF2 HO HM3 r0 r1 r2 hwn HWa
    have HUp := Lib.hid (fun (lf' lc' : List Fct) (hof' : OkL lf') (hoc' : ∀ x ∈ lc', x.p = 1 ∨ x.p = 2) (hM : (envL (plF L) (plC L)).More (envL lf' lc') t) (h : erD t (plF L) (plC L) fr tu = 0) => kn_er (fr := fr) (tu := tu) HRel.out.2.2.1 HRel.out.2.2.2 hof' hoc' hM h)
    obtain ⟨E1, hE1⟩ : ∃ E, E = erD t (plF L) (plC L) fr tu := ⟨_, rfl⟩
    rw [← hE1] at HUp HP HPw ⊢
    have HE1 : Hid (E1 = 0 → erD t (plF L) (plC L) fr tu = 0) := Lib.hid (fun h => hE1.symm.trans h)
    clear hE1
    by_cases e0 : E1 = 0
    · subst e0
      have hz0 := HE1.out rfl
      obtain ⟨hma1, hma2⟩ : ma.Perm (reD t (plF L) (plC L) fr tu).1 ∧ ∀ x, x ∈ mw ↔ x ∈ (reD t (plF L) (plC L) fr tu).2 := ⟨HP.out.2.2.2 rfl, HPw.out.2 rfl⟩
      have HZ0 := Lib.hid hz0
      clear hz0 HE1
      have HPa := Lib.hid (And.intro HP.out.1 (And.intro HP.out.2.1 (And.intro hma1 hma2)))
      have hst : KnS w0 w4 B bf bc (L.length + 0) t (plF L) (plC L) w2.heap.size (.slice aa ma.length ac) ma := ⟨⟨_, _, _, _, HM4.out, HRel.out.1, HRel.out.2.1, HRel.out.2.2.1, HRel.out.2.2.2, Env.More.refl _ _⟩, HB4.out, HOa.out⟩
      have HSt := Lib.hid hst
      clear hma1 hma2 hst HP HPw HOa HM4 HB3
      go_wp2_with fail
      go_loopw [10] (fun vi wx => ∃ i : Nat, i ≤ L2.length ∧ vi = .int .i64 (i : Nat) ∧ KnS w0 wx B bf bc (L.length + i) t (plF L) (plC L) w2.heap.size (.slice aa ma.length ac) ma) (fun vi _ => L2.length - (RowKit.intOf vi).toNat)
      case atStart => exact ⟨0, Nat.zero_le _, rfl, HSt.out⟩
      case round =>
        obtain ⟨i, hi, rfl, hs⟩ := hrel
        have HSr := Lib.hid hs
        clear hs
        by_cases hlt : i < L2.length
        · have p0 : (0 : Int) ≤ (i : Int) := by omega
          have p1 : (i : Int) < (L2.length : Int) := by omega
          obtain ⟨bb, o, cap, hv, hc1, hc2, hT⟩ : ∃ b o cap, Value.slice a2 L2.length c2 = .slice (some ⟨b, o, none⟩) L2.length cap ∧ L2.length ≤ cap ∧ cap ≤ 9223372036854775807 ∧ ∀ j, j < L2.length → TolC w0 b (o + j * 6) (L2.getD j default) := by
            rcases HS.out.2.2.1 with ⟨e, _⟩ | ⟨_, b, o, cap, h1, h2, h3, h4⟩
            · rw [e] at hlt; exact absurd hlt (Nat.not_lt_zero _)
            · exact ⟨b, o, cap, h1, h2, h3, h4⟩
          injection hv with hv1 _ hv3
          subst hv1 hv3
          obtain ⟨k0, k1, k2, k3, k4, k5⟩ := (hT i hlt).keep HSr.out.bel
          have HLt := Lib.hid hlt
          have HOi := Lib.hid (HOk.out i hlt)
          obtain ⟨D, Dc, lf', lc', hm, hrf, hrc, hO, hPk, hMo⟩ := HSr.out.fac
          generalize L2.getD i default = x at *
          have HFx := Lib.hid (fun (w' : World) (hb : Below wr.heap.size wr w') => fixing_l w' (hm.keep hb) hrf x.k x.d HOi.out.1 HOi.out.2.1)
          have HCh := Lib.hid (fun (w' : World) (hb : Below wr.heap.size wr w') => choice_k w' (hm.keep hb) hrc x.k x.d HOi.out.1 HOi.out.2.1)
          have HTl := Lib.hid (fun (w' : World) (hb : Below wr.heap.size wr w') => tell_any w' (hm.keep hb) (by have := HD.out; have := HLt.out; unfold maxLen; omega) x HOi.out)
          have HTs := Lib.hid (fun (w' w'' : World) (hb : Below wr.heap.size wr w') (row : Option Nat) (hf : x.c = false → (gtL lf' x.k x.d).2.2 = false) (hc : x.c = true → lc'.find? (isG x.k x.d) = none) (ha : x.c = true → anyK t x.k t.length = false) (hg : w'.grownBy w'' row) (hrow : row = some bf ∨ row = some bc) (hm' : FacM w'' B bf bc (L.length + i + 1) (tolF x D) (tolC x Dc)) =>
            (HSr.out.keep hb).tell hg hrow ⟨HZ.out.1, HZ.out.2⟩ HXX.out hm' (rel_stF hrf x HOi.out) (rel_stC hrc x HOi.out) (okL_stF hO x HOi.out) (pick_stC hPk x) (hMo.trans ((env_stF hrf.srt x hf).trans (env_stC hrc.srt x hc (fun e p hp ho => anyK_no (ha e) p hp ho)))))
          obtain ⟨tc, tk, td, tx, ty, tp⟩ := x
          unfold tolV at HTl
          dsimp only at k0 k1 k2 k3 k4 k5 HFx HCh HTl HTs
          have yy : ∀ k v, (#[.bool tc, .int .i64 tk, .int .i64 td, .int .i64 tx, .int .i64 ty, .int .i64 tp] : Array Value)[k]? = some v → (wr.alloc (.cells #[.bool tc, .int .i64 tk, .int .i64 td, .int .i64 tx, .int .i64 ty, .int .i64 tp] 62)).cell? ⟨wr.heap.size, k, none⟩ = some v := fun k v hv => by rw [World.cell?_alloc_at _ _ _ _ rfl]; exact hv
          have y0 := yy 0 (.bool tc) rfl
          have y1 := yy 1 (.int .i64 tk) rfl
          have y2 := yy 2 (.int .i64 td) rfl
          have y3 := yy 3 (.int .i64 tx) rfl
          have y4 := yy 4 (.int .i64 ty) rfl
          have y5 := yy 5 (.int .i64 tp) rfl
          have HY := Lib.hid (And.intro y0 (And.intro y1 (And.intro y2 (And.intro y3 (And.intro y4 y5)))))
          generalize gtL lf' tk td = G at *
          obtain ⟨gx, gy, gi⟩ := G
          dsimp only at HFx HTs
          clear hlt hT hm hrf hrc hO hPk hMo yy y0 y3 y4 y5
          go_wp2_with fail
          refine (HFx.out _ (newF _ _)).mono ?_
          rintro e w6 ⟨rfl, hb6⟩
          have hb7 := onF (onF (newF wr (.cells #[.bool tc, .int .i64 tk, .int .i64 td, .int .i64 tx, .int .i64 ty, .int .i64 tp] 62)) hb6) (newF w6 (.cells #[.int .i64 gx, .int .i64 gy] 55))
          have HB7 := Lib.hid hb7
          have HK := Lib.hid (fun (k : Nat) (v : Value) (h : (wr.alloc (.cells #[.bool tc, .int .i64 tk, .int .i64 td, .int .i64 tx, .int .i64 ty, .int .i64 tp] 62)).cell? ⟨wr.heap.size, k, none⟩ = some v) => keepF (newF w6 (.cells #[.int .i64 gx, .int .i64 gy] 55)) (keepF hb6 h))
          have y0 := HK.out 0 _ HY.out.1
          have y1 := HK.out 1 _ HY.out.2.1
          have y2 := HK.out 2 _ HY.out.2.2.1
          have y3 := HK.out 3 _ HY.out.2.2.2.1
          have y4 := HK.out 4 _ HY.out.2.2.2.2.1
          have y5 := HK.out 5 _ HY.out.2.2.2.2.2
          have HZy := Lib.hid (And.intro y1 (And.intro y2 (And.intro y3 (And.intro y4 y5))))
          clear hb6 hb7 HFx k0 k1 k2 k3 k4 k5 HK HY
          cases tc with
          | false =>
            cases gi with
            | true =>
              clear y1 y2 y3 y4 y5
              go_wp2_with fail
              go_roundw
              case rel => exact ⟨i + 1, HLt.out, by go_num, (HSr.out.keep HB7.out).up⟩
              case measure => have := HLt.out; simp [RowKit.intOf]; omega
            | false =>
              go_wp2_with fail
              refine (HTl.out _ HB7.out).mono ?_
              rintro e w8 ⟨rfl, row, hm8, hg, hrow⟩
              have HS8 := Lib.hid (HTs.out _ _ HB7.out row (fun _ => by first | rfl | trivial) (fun h => by cases h) (fun h => by cases h) hg hrow hm8)
              clear hm8 hg hrow y0 y1 y2 y3 y4 y5 HTl HTs
              go_wp2_with fail
              go_roundw
              case rel => exact ⟨i + 1, HLt.out, by go_num, HS8.out⟩
              case measure => have := HLt.out; simp [RowKit.intOf]; omega
          | true =>
            clear y3 y4 y5
            go_wp2_with fail
            refine (HCh.out _ HB7.out).mono ?_
            rintro e w8 ⟨⟨xp, rfl⟩, hb8⟩
            have HB8 := Lib.hid (onF HB7.out hb8)
            have HZ8 := Lib.hid (And.intro (keepF hb8 HZy.out.1) (And.intro (keepF hb8 HZy.out.2.1) (And.intro (keepF hb8 HZy.out.2.2.1) (And.intro (keepF hb8 HZy.out.2.2.2.1) (And.intro (keepF hb8 HZy.out.2.2.2.2) (keepF hb8 y0))))))
            have HJ := Lib.hid (keepF (onF HSr.out.bel HB8.out) HR.out.1)
            have HNd := Lib.hid (HS.out.1.keep (onF HSr.out.bel HB8.out))
            obtain ⟨isc, hisc⟩ : ∃ b, b = (lc'.find? (isG tk td)).isSome := ⟨_, rfl⟩
            rw [← hisc]
            have HIs := Lib.hid hisc
            clear hb8 y0 y1 y2 HCh HZy hisc
            go_wp2_with fail
            go_loopw [14, 13] (fun vk vb wx => ∃ k : Nat, k ≤ t.length ∧ vk = .int .i64 (k : Nat) ∧ vb = .bool (isc || anyK t tk k) ∧ ∃ q, wx = w8.drewN q) (fun vk _ _ => t.length - (RowKit.intOf vk).toNat)
            case atStart => exact ⟨0, Nat.zero_le _, rfl, by simp [anyK], 0, rfl⟩
            case round =>
              obtain ⟨k, hk, rfl, rfl, q, hwx⟩ := hrel
              have HQ := Lib.hid hwx
              obtain ⟨u, hu⟩ : ∃ b, b = (isc || anyK t tk k) := ⟨_, rfl⟩
              rw [← hu]
              have HU := Lib.hid hu
              have y0 := keepF (below_drewE w8 q) HZ8.out.1
              have y1 := keepF (below_drewE w8 q) HZ8.out.1
              have r0 := keepF (below_drewE w8 q) HJ.out
              rw [← hwx] at y1 r0
              clear hwx hu y0
              by_cases hkt : k < t.length
              · have p0 : (0 : Int) ≤ (k : Int) := by omega
                have p1 : (k : Int) < (t.length : Int) := by omega
                have HLk := Lib.hid hkt
                obtain ⟨nb, no, ncap, hv, hn1, hn2, hnd⟩ : ∃ b o cap, Value.slice a0 t.length c0 = .slice (some ⟨b, o, none⟩) t.length cap ∧ t.length ≤ cap ∧ cap ≤ 9223372036854775807 ∧ NdA w8 b o t := by
                  rcases HNd.out with ⟨e, _⟩ | ⟨_, b, o, cap, h1, h2, h3, h4⟩
                  · rw [e] at hkt; exact absurd hkt (Nat.not_lt_zero _)
                  · exact ⟨b, o, cap, h1, h2, h3, h4⟩
                injection hv with hv1 _ hv3
                subst hv1 hv3
                have m0 : wr.cell? ⟨nb, no + k * 5, none⟩ = some (.int .i64 (opA t k)) := by rw [HQ.out]; exact (hnd k hkt).c0
                have m1 : wr.cell? ⟨nb, no + k * 5 + 1, none⟩ = some (.int .i64 (aA t k)) := by rw [HQ.out]; exact (hnd k hkt).c1
                have HSu := Lib.hid (anyK_succ t tk k)
                clear hkt hnd
                obtain ⟨op, hop⟩ : ∃ x, x = opA t k := ⟨_, rfl⟩
                obtain ⟨ka, hka⟩ : ∃ x, x = aA t k := ⟨_, rfl⟩
                rw [← hop] at m0
                rw [← hka] at m1
                have HOp := Lib.hid (And.intro hop hka)
                clear hop hka
                cases u with
                | true =>
                  clear m0 m1
                  go_wp2_with fail
                  go_quiet (fail)
                  go_wp2_with fail
                  go_roundw
                  case rel => exact ⟨k + 1, HLk.out, by go_num, by rw [HSu.out, ← Bool.or_assoc, ← HU.out]; rfl, q + nq, by rw [HQ.out, World.drewN_drewN]⟩
                  case measure => have := HLk.out; simp [RowKit.intOf]; omega
                | false =>
                  by_cases g1 : op = 17
                  · by_cases g2 : ka = tk
                    · subst g1 g2
                      go_wp2_with fail
                      go_quiet (fail)
                      go_wp2_with fail
                      go_roundw
                      case rel => exact ⟨k + 1, HLk.out, by go_num, by rw [HSu.out, ← HOp.out.1, ← HOp.out.2]; simp, q + nq, by rw [HQ.out, World.drewN_drewN]⟩
                      case measure => have := HLk.out; simp [RowKit.intOf]; omega
                    · subst g1
                      have g2' : (ka == tk) = false := beq_false_of_ne g2
                      have HG := Lib.hid g2
                      clear g2
                      go_wp2_with fail
                      go_quiet (fail)
                      go_wp2_with fail
                      go_roundw
                      case rel => exact ⟨k + 1, HLk.out, by go_num, by rw [HSu.out, ← HOp.out.1, ← HOp.out.2, ← Bool.or_assoc, ← HU.out]; simp [HG.out], q + nq, by rw [HQ.out, World.drewN_drewN]⟩
                      case measure => have := HLk.out; simp [RowKit.intOf]; omega
                  · have g1' : (op == 17) = false := beq_false_of_ne g1
                    have HG := Lib.hid g1
                    clear g1 m1
                    go_wp2_with fail
                    go_quiet (fail)
                    go_wp2_with fail
                    go_roundw
                    case rel => exact ⟨k + 1, HLk.out, by go_num, by rw [HSu.out, ← HOp.out.1, ← HOp.out.2, ← Bool.or_assoc, ← HU.out]; simp [HG.out], q + nq, by rw [HQ.out, World.drewN_drewN]⟩
                    case measure => have := HLk.out; simp [RowKit.intOf]; omega
              · have hke : k = t.length := by omega
                subst hke
                have p1 : ¬ (t.length : Int) < (t.length : Int) := by omega
                have hbq : Below w8.heap.size w8 wr := by rw [HQ.out]; exact below_drewE _ _
                have HBq := Lib.hid (onF HB8.out hbq)
                cases u with
                | true =>
                  clear hbq
                  go_wp2_with fail
                  go_roundw
                  case rel => exact ⟨i + 1, HLt.out, by go_num, (HSr.out.keep HBq.out).up⟩
                  case measure => have := HLt.out; simp [RowKit.intOf]; omega
                | false =>
                  have hno := (Bool.or_eq_false_iff.1 HU.out.symm)
                  have y1 := keepF hbq HZ8.out.1
                  have y2 := keepF hbq HZ8.out.2.1
                  have y3 := keepF hbq HZ8.out.2.2.1
                  have y4 := keepF hbq HZ8.out.2.2.2.1
                  have y5 := keepF hbq HZ8.out.2.2.2.2.1
                  have y0 := keepF hbq HZ8.out.2.2.2.2.2
                  have HNo : Hid (lc'.find? (isG tk td) = none ∧ anyK t tk t.length = false) := Lib.hid ⟨by have := HIs.out.symm.trans hno.1; simpa using this, hno.2⟩
                  clear hbq hno hk
                  go_wp2_with fail
                  refine (HTl.out _ HBq.out).mono ?_
                  rintro e w9 ⟨rfl, row, hm9, hg, hrow⟩
                  have HS9 := Lib.hid (HTs.out _ _ HBq.out row (fun h => by cases h) (fun _ => HNo.out.1) (fun _ => HNo.out.2) hg hrow hm9)
                  clear hm9 hg hrow y0 y1 y2 y3 y4 y5 HTl HTs
                  go_wp2_with fail
                  go_roundw
                  case rel => exact ⟨i + 1, HLt.out, by go_num, HS9.out⟩
                  case measure => have := HLt.out; simp [RowKit.intOf]; omega
        · have hie : i = L2.length := by omega
          subst hie
          have p1 : ¬ (L2.length : Int) < (L2.length : Int) := by omega
          obtain ⟨D, Dc, lf', lc', hm, hrf, hrc, hO, hPk, hMo⟩ := HSr.out.fac
          have HF3 := Lib.hid (HFl.out wr HSr.out.bel _ D Dc lf' lc' hm hrf hrc hO hPk)
          have HU := Lib.hid (HUp.out lf' lc' hO hPk hMo (by first | rfl | trivial))
          have r0 := keepF HSr.out.bel HR.out.1
          have r1 := keepF HSr.out.bel HR.out.2.1
          have r2 := keepF HSr.out.bel HR.out.2.2.1
          clear hm hrf hrc hO hPk hMo hlt hi HFl HUp
          go_wp2_with fail
          refine HF3.out.mono ?_
          rintro e w5 ⟨hb5, vb, mb, rfl, ho, hml, hsr, hne, hp⟩
          have HPb := Lib.hid (And.intro hml (And.intro hsr (And.intro hne hp)))
          have HB5 := Lib.hid (onF (onF HB0.out HSr.out.bel) hb5)
          have HRa := Lib.hid (OwnX.row (E := flL) (k := 3) (fun _ => rfl) (HSr.out.row.grown hb5))
          have HRb := Lib.hid (OwnX.row (E := flL) (k := 3) (fun _ => rfl) ho)
          obtain ⟨ba, bc, rfl⟩ := ho.slice
          clear ho hml hsr hne hp hb5 HF3 r0 r1 r2 HSr
          generalize erD t lf' lc' fr tu = E2 at *
          by_cases w0' : mw.length = 0
          · have hw : mw = [] := List.length_eq_zero_iff.1 w0'
            have hre : (reD t (plF L) (plC L) fr tu).2 = [] := List.eq_nil_iff_forall_not_mem.2 fun x hx => by
              have := (HPa.out.2.2.2 x).2 hx
              rw [hw] at this; cases this
            obtain ⟨rfl, u2⟩ := HU.out.1 hre
            have hmb : mb = ma := srF_uniq HPb.out.2.1 HPa.out.2.1 ((HPb.out.2.2.2 rfl).trans (by rw [u2]; exact HPa.out.2.2.1.symm))
            subst hmb
            have hwn : (wn : Int) = 0 := by have := HWn.out; omega
            have hwn' : wn = 0 := by have := HWn.out; omega
            subst hwn'
            have HEq := Lib.hid (flows_eq w5 _ _ _ HRa.out HRb.out)
            clear hw hre u2 w0' hwn HRa HRb HU HPb HPa HWn
            go_wp2_with fail
            refine HEq.out.mono ?_
            rintro e w6 ⟨rfl, hb6⟩
            have HB6 := Lib.hid (onF HB5.out hb6)
            clear hb6 HEq
            go_wp2_with fail
            refine (HAw.out _ HB6.out).mono ?_
            rintro e w7 ⟨rfl, hb7⟩
            have HB7 := Lib.hid (onF HB6.out hb7)
            clear hb7
            go_wp2_with fail
            go_ret
            exact ⟨rfl, HB7.out⟩
          · have hwn : ((wn : Int) == 0) = false := beq_false_of_ne (by have := HWn.out; omega)
            have hwn2 : ¬ (wn : Int) = 0 := by have := HWn.out; omega
            clear w0'
            rcases HU.out.2.1 with rfl | rfl
            · obtain ⟨rr, hrr⟩ := HU.out.2.2 rfl
              have hsub : ma.Sublist mb := flw_sub (r := rr) HPa.out.2.1 HPb.out.2.1 ((HPb.out.2.2.2 rfl).trans (hrr.trans (List.Perm.append_right _ HPa.out.2.2.1.symm)))
              have HSb := Lib.hid hsub
              clear hrr hsub HU
              go_wp2_with fail
              go_loopw [17, 18] (fun vk vi wx => ∃ k i2 : Nat, k ≤ ma.length ∧ i2 ≤ mb.length ∧ vk = .int .i64 (k : Nat) ∧ vi = .int .i64 (i2 : Nat) ∧ (ma.drop k).Sublist (mb.drop i2) ∧ ∃ q, wx = w5.drewN q) (fun _ vi _ => mb.length - (RowKit.intOf vi).toNat)
              case atStart => exact ⟨0, 0, Nat.zero_le _, Nat.zero_le _, rfl, rfl, by simpa using HSb.out, 0, rfl⟩
              case round =>
                obtain ⟨k, i2, hk, hi2, rfl, rfl, hsub, q, hwx⟩ := hrel
                have HQ := Lib.hid hwx
                have HSu := Lib.hid hsub
                have HBq : Hid (Below w.heap.size w wr) := Lib.hid (by rw [hwx]; exact onF HB5.out (below_drewE _ _))
                clear hsub hwx
                by_cases hib : i2 < mb.length
                · have p0 : (0 : Int) ≤ (i2 : Int) := by omega
                  have p1 : (i2 : Int) < (mb.length : Int) := by omega
                  by_cases hka : k < ma.length
                  · have p2 : (0 : Int) ≤ (k : Int) := by omega
                    have p3 : (k : Int) < (ma.length : Int) := by omega
                    have HLi := Lib.hid hib
                    have HLk := Lib.hid hka
                    obtain ⟨gr1, gr2⟩ := greedy HSu.out hka hib
                    obtain ⟨ga, oa, ca1, hv, hf1a, hf2a, hTa⟩ : ∃ g o cap, Value.slice aa ma.length ac = .slice (some ⟨g, o, none⟩) ma.length cap ∧ ma.length ≤ cap ∧ cap ≤ 9223372036854775807 ∧ ∀ j, j < ma.length → ∀ i c, i < 3 → (flL (ma.getD j default))[i]? = some c → w5.cell? ⟨g, o + j * 3 + i, none⟩ = some c := by
                      rcases HRa.out with ⟨e, _⟩ | ⟨_, g, o, cap, h1, h2, h3, h4⟩
                      · rw [e] at hka; exact absurd hka (Nat.not_lt_zero _)
                      · exact ⟨g, o, cap, h1, h2, h3, h4⟩
                    injection hv with hv1 _ hv3
                    subst hv1 hv3
                    obtain ⟨gb, ob, cb1, hv, hf1b, hf2b, hTb⟩ : ∃ g o cap, Value.slice ba mb.length bc = .slice (some ⟨g, o, none⟩) mb.length cap ∧ mb.length ≤ cap ∧ cap ≤ 9223372036854775807 ∧ ∀ j, j < mb.length → ∀ i c, i < 3 → (flL (mb.getD j default))[i]? = some c → w5.cell? ⟨g, o + j * 3 + i, none⟩ = some c := by
                      rcases HRb.out with ⟨e, _⟩ | ⟨_, g, o, cap, h1, h2, h3, h4⟩
                      · rw [e] at hib; exact absurd hib (Nat.not_lt_zero _)
                      · exact ⟨g, o, cap, h1, h2, h3, h4⟩
                    injection hv with hv1 _ hv3
                    subst hv1 hv3
                    have k0 : wr.cell? ⟨ga, oa + k * 3, none⟩ = some (.int .i64 (ma.getD k default).d) := by rw [HQ.out]; exact hTa k hka 0 _ (by omega) rfl
                    have k1 : wr.cell? ⟨ga, oa + k * 3 + 1, none⟩ = some (.int .i64 (ma.getD k default).c) := by rw [HQ.out]; exact hTa k hka 1 _ (by omega) rfl
                    have k2 : wr.cell? ⟨ga, oa + k * 3 + 2, none⟩ = some (.int .i64 (ma.getD k default).n) := by rw [HQ.out]; exact hTa k hka 2 _ (by omega) rfl
                    have m0 : wr.cell? ⟨gb, ob + i2 * 3, none⟩ = some (.int .i64 (mb.getD i2 default).d) := by rw [HQ.out]; exact hTb i2 hib 0 _ (by omega) rfl
                    have m1 : wr.cell? ⟨gb, ob + i2 * 3 + 1, none⟩ = some (.int .i64 (mb.getD i2 default).c) := by rw [HQ.out]; exact hTb i2 hib 1 _ (by omega) rfl
                    have m2 : wr.cell? ⟨gb, ob + i2 * 3 + 2, none⟩ = some (.int .i64 (mb.getD i2 default).n) := by rw [HQ.out]; exact hTb i2 hib 2 _ (by omega) rfl
                    generalize ma.getD k default = y at *
                    generalize mb.getD i2 default = z at *
                    have HG1 := Lib.hid gr1
                    have HG2 := Lib.hid gr2
                    obtain ⟨yd, yc, yn⟩ := y
                    obtain ⟨zd, zc, zn⟩ := z
                    dsimp only at k0 k1 k2 m0 m1 m2
                    clear hTa hTb hka hib hk hi2 gr1 gr2
                    by_cases h1 : zd = yd
                    · by_cases h2 : zc = yc
                      · by_cases h3 : zn = yn
                        · subst h1 h2 h3
                          go_wp2_with fail
                          go_quiet (fail)
                          go_wp2_with fail
                          go_roundw
                          case rel => exact ⟨k + 1, i2 + 1, HLk.out, HLi.out, by go_num, by go_num, HG1.out (by first | rfl | trivial), q + nq, by rw [HQ.out, World.drewN_drewN]⟩
                          case measure => have := HLi.out; simp [RowKit.intOf]; omega
                        · subst h1 h2
                          have HNe : Hid ((⟨zd, zc, zn⟩ : Flw) ≠ ⟨zd, zc, yn⟩) := Lib.hid (fun e => h3 (by injection e))
                          have h3' : (zn == yn) = false := beq_false_of_ne h3
                          clear h3
                          go_wp2_with fail
                          go_quiet (fail)
                          go_wp2_with fail
                          go_roundw
                          case rel => exact ⟨k, i2 + 1, Nat.le_of_lt HLk.out, HLi.out, by go_num, by go_num, HG2.out HNe.out, q + nq, by rw [HQ.out, World.drewN_drewN]⟩
                          case measure => have := HLi.out; simp [RowKit.intOf]; omega
                      · subst h1
                        have HNe : Hid ((⟨zd, zc, zn⟩ : Flw) ≠ ⟨zd, yc, yn⟩) := Lib.hid (fun e => h2 (by injection e))
                        have h2' : (zc == yc) = false := beq_false_of_ne h2
                        clear h2
                        go_wp2_with fail
                        go_quiet (fail)
                        go_wp2_with fail
                        go_roundw
                        case rel => exact ⟨k, i2 + 1, Nat.le_of_lt HLk.out, HLi.out, by go_num, by go_num, HG2.out HNe.out, q + nq, by rw [HQ.out, World.drewN_drewN]⟩
                        case measure => have := HLi.out; simp [RowKit.intOf]; omega
                    · have HNe : Hid ((⟨zd, zc, zn⟩ : Flw) ≠ ⟨yd, yc, yn⟩) := Lib.hid (fun e => h1 (by injection e))
                      have h1' : (zd == yd) = false := beq_false_of_ne h1
                      clear h1
                      go_wp2_with fail
                      go_quiet (fail)
                      go_wp2_with fail
                      go_roundw
                      case rel => exact ⟨k, i2 + 1, Nat.le_of_lt HLk.out, HLi.out, by go_num, by go_num, HG2.out HNe.out, q + nq, by rw [HQ.out, World.drewN_drewN]⟩
                      case measure => have := HLi.out; simp [RowKit.intOf]; omega
                  · have hke : k = ma.length := by omega
                    subst hke
                    have p3 : ¬ (ma.length : Int) < (ma.length : Int) := by omega
                    clear hka hk hib hi2 HRa HRb
                    go_wp2_with fail
                    refine (HAw.out _ HBq.out).mono ?_
                    rintro e w6 ⟨rfl, hb6⟩
                    have HB6 := Lib.hid (onF HBq.out hb6)
                    clear hb6
                    go_wp2_with fail
                    go_ret
                    exact ⟨rfl, HB6.out⟩
                · have hke := greedy_end HSu.out hk hib
                  subst hke
                  have p1 : ¬ (i2 : Int) < (mb.length : Int) := by omega
                  clear hk hib hi2 HRa HRb
                  go_wp2_with fail
                  refine (HAw.out _ HBq.out).mono ?_
                  rintro e w6 ⟨rfl, hb6⟩
                  have HB6 := Lib.hid (onF HBq.out hb6)
                  clear hb6
                  go_wp2_with fail
                  go_ret
                  exact ⟨rfl, HB6.out⟩
            · clear HU HPb HPa HRa HRb
              go_wp2_with fail
              refine (HAw.out _ HB5.out).mono ?_
              rintro e w6 ⟨rfl, hb6⟩
              have HB6 := Lib.hid (onF HB5.out hb6)
              clear hb6
              go_wp2_with fail
              go_ret
              exact ⟨rfl, HB6.out⟩
    · have e0' : (E1 != 0) = true := bne_iff_ne.2 e0
      have e0'' : (E1 == 0) = false := beq_false_of_ne e0
      clear HUp HP HPw e0
      go_wp2_with fail
      refine (HAw.out _ (onF HB0.out HB4.out)).mono ?_
      rintro e w5 ⟨rfl, hb5⟩
      have HB5 := Lib.hid (onF (onF HB0.out HB4.out) hb5)
      clear hb5
      go_wp2_with fail
      go_ret
      exact ⟨rfl, HB5.out⟩

end Go.Proofs.YtjafbfepdmgjnaaGreatDoor

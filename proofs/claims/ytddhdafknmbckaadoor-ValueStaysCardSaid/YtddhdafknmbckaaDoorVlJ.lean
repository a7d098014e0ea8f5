/-
  chattellaw08.ValueStays: its walk.
-/
import Derived.Test.YtddhdafknmbckaaDoorVlI
namespace Go.Proofs.YtddhdafknmbckaaDoor
open Go.RowKit Go.Lib Go.Shelf Go.Maps
set_option linter.unusedVariables false
set_option linter.unusedSimpArgs false

/-- Facts that are told more, and a value that is kept aside. -/
structure StaS (w0 wx : World) (B bf bc n X : Nat) (l : List Fct) (vb : Bool) (vn vd : Int) : Prop where
  fac : ∃ D Dc l', FacM wx B bf bc n D Dc ∧ RelV vR D l' ∧ OkL l' ∧ MoreL l l'
  bel : Below w0.heap.size w0 wx
  c0 : wx.cell? ⟨X, 0, none⟩ = some (.bool vb)
  c1 : wx.cell? ⟨X, 1, none⟩ = some (.int .i64 vn)
  c2 : wx.cell? ⟨X, 2, none⟩ = some (.int .i64 vd)
theorem StaS.keep {w0 wx wy : World} {B bf bc n X : Nat} {l : List Fct} {vb : Bool} {vn vd : Int} (h : StaS w0 wx B bf bc n X l vb vn vd) (hb : Below wx.heap.size wx wy) : StaS w0 wy B bf bc n X l vb vn vd := by
  obtain ⟨D, Dc, l', h1, h2⟩ := h.fac
  exact ⟨⟨D, Dc, l', h1.keep hb, h2⟩, onF h.bel hb, keepF hb h.c0, keepF hb h.c1, keepF hb h.c2⟩
theorem StaS.up {w0 wx : World} {B bf bc n X : Nat} {l : List Fct} {vb : Bool} {vn vd : Int} (h : StaS w0 wx B bf bc n X l vb vn vd) : StaS w0 wx B bf bc (n + 1) X l vb vn vd := by
  obtain ⟨D, Dc, l', h1, h2⟩ := h.fac
  exact ⟨⟨D, Dc, l', h1.mono (by omega), h2⟩, h.bel, h.c0, h.c1, h.c2⟩
theorem StaS.tell {w0 wx wy : World} {B bf bc n X : Nat} {l : List Fct} {vb : Bool} {vn vd : Int} (h : StaS w0 wx B bf bc n X l vb vn vd) {row : Option Nat} (hg : wx.grownBy wy row) (hrow : row = some bf ∨ row = some bc) (hz : w0.heap.size ≤ bf ∧ w0.heap.size ≤ bc) (hx : bf < X ∧ bc < X)
    {D Dc : DataW Unit} {l' : List Fct} (hm : FacM wy B bf bc (n + 1) D Dc) (hr : RelV vR D l') (hO : OkL l') (hM : MoreL l l') : StaS w0 wy B bf bc (n + 1) X l vb vn vd := by
  have hne : some X ≠ row := fun e => by rcases hrow with h | h <;> (rw [h] at e; injection e with e; omega)
  have far : ∀ i v, wx.cell? ⟨X, i, none⟩ = some v → wy.cell? ⟨X, i, none⟩ = some v := fun i v hc => (World.cell?_of_block (hg.block X (ltF hc) hne)).trans hc
  exact ⟨⟨D, Dc, l', hm, hr, hO, hM⟩, h.bel.grown hg h.bel.size (fun k hk => by rcases hrow with h | h <;> (rw [h] at hk; injection hk with hk; omega)), far _ _ h.c0, far _ _ h.c1, far _ _ h.c2⟩
set_option maxRecDepth 100000 in
set_option maxHeartbeats 4000000 in
theorem vstays_walk (w : World) (t : List Nd) (hbd : BdT t) (v0 : Value) (h0 : SlT w v0 t) (L1 L2 : List Tol) (s1 s2 : Value) (h1 : SlTol w s1 L1) (hok1 : ∀ j, j < L1.length → (L1.getD j default).Ok) (h2 : SlTol w s2 L2) (hok2 : ∀ j, j < L2.length → (L2.getD j default).Ok) (p day : Int) (C : KndW w) :
    Calls Tryd.prog 4 #[v0, .agg #[s1, s2], .agg #[.int .i64 p, .int .i64 day]] w fun e w' => e = .returned (.bool true) ∧ Below w.heap.size w w' := by
  obtain ⟨a0, c0, rfl⟩ := h0.slice
  obtain ⟨a1, c1, rfl⟩ : ∃ a c, s1 = .slice a L1.length c := by
    rcases h1 with ⟨rfl, a, c, rfl⟩ | ⟨_, b, o, c, rfl, _⟩
    · exact ⟨_, _, rfl⟩
    · exact ⟨_, _, rfl⟩
  obtain ⟨a2, c2, rfl⟩ : ∃ a c, s2 = .slice a L2.length c := by
    rcases h2 with ⟨rfl, a, c, rfl⟩ | ⟨_, b, o, c, rfl, _⟩
    · exact ⟨_, _, rfl⟩
    · exact ⟨_, _, rfl⟩
  have HAw := Lib.hid (fun (w' : World) (hb : Below w.heap.size w w') => awake8_any w' (C.keep hb))
  have hb0 := onF (newF w (.cells #[.slice a1 L1.length c1, .slice a2 L2.length c2] 49)) (newF _ (.cells #[.int .i64 p, .int .i64 day] 24))
  have r0 : ((w.alloc (.cells #[.slice a1 L1.length c1, .slice a2 L2.length c2] 49)).alloc (.cells #[.int .i64 p, .int .i64 day] 24)).cell? ⟨w.heap.size, 0, none⟩ = some (.slice a1 L1.length c1) := keepF (newF _ _) (by rw [World.cell?_alloc_at _ _ _ _ rfl]; rfl)
  have r1 : ((w.alloc (.cells #[.slice a1 L1.length c1, .slice a2 L2.length c2] 49)).alloc (.cells #[.int .i64 p, .int .i64 day] 24)).cell? ⟨w.heap.size, 1, none⟩ = some (.slice a2 L2.length c2) := keepF (newF _ _) (by rw [World.cell?_alloc_at _ _ _ _ rfl]; rfl)
  have q0 : ((w.alloc (.cells #[.slice a1 L1.length c1, .slice a2 L2.length c2] 49)).alloc (.cells #[.int .i64 p, .int .i64 day] 24)).cell? ⟨w.heap.size + 1, 0, none⟩ = some (.int .i64 p) := by rw [World.cell?_alloc_at _ _ _ _ (by simp)]; rfl
  have q1 : ((w.alloc (.cells #[.slice a1 L1.length c1, .slice a2 L2.length c2] 49)).alloc (.cells #[.int .i64 p, .int .i64 day] 24)).cell? ⟨w.heap.size + 1, 1, none⟩ = some (.int .i64 day) := by rw [World.cell?_alloc_at _ _ _ _ (by simp)]; rfl
  have HR := Lib.hid (And.intro r0 (And.intro r1 (And.intro q0 q1)))
  have HB0 := Lib.hid hb0
  have HS := Lib.hid (And.intro (h0.keep hb0) (And.intro (h1.keep hb0) (And.intro (h2.keep hb0) (C.keep hb0))))
  have HMd := Lib.hid (fun (w' : World) (hs : SlTol w' (.slice a1 L1.length c1) L1) => made_any w' _ L1 hs hok1)
  have hrel := rel_made L1 L1.length (Nat.le_refl _) hok1
  rw [List.take_length] at hrel
  have HRel := Lib.hid (And.intro hrel.1 (plF_ok L1 (ok_mem hok1)))
  have HBd := Lib.hid hbd
  have HOk := Lib.hid hok2
  by_cases l0 : 100 < t.length
  · have i0 : (100 : Int) < (t.length : Int) := by omega
    clear hb0 r0 r1 q0 q1 h0 h1 h2 hok1 hok2 C hbd hrel l0
    go_enter Tryd.func4, Tryd.ntmps4
    go_wp2_with fail
    refine (HAw.out _ HB0.out).mono ?_
    rintro e w2 ⟨rfl, hb2⟩
    have HB2 := Lib.hid (onF HB0.out hb2)
    clear hb2
    go_wp2_with fail
    go_ret
    exact ⟨rfl, HB2.out⟩
  have i0 : ¬ (100 : Int) < (t.length : Int) := by omega
  by_cases l1 : 40 < L1.length
  · have i1 : (40 : Int) < (L1.length : Int) := by omega
    clear hb0 q0 q1 h0 h1 h2 hok1 hok2 C hbd hrel l0 l1
    go_enter Tryd.func4, Tryd.ntmps4
    go_wp2_with fail
    refine (HAw.out _ HB0.out).mono ?_
    rintro e w2 ⟨rfl, hb2⟩
    have HB2 := Lib.hid (onF HB0.out hb2)
    clear hb2 r0 r1
    go_wp2_with fail
    go_ret
    exact ⟨rfl, HB2.out⟩
  have i1 : ¬ (40 : Int) < (L1.length : Int) := by omega
  by_cases l2 : 40 < L2.length
  · have i2 : (40 : Int) < (L2.length : Int) := by omega
    clear hb0 q0 q1 h0 h1 h2 hok1 hok2 C hbd hrel l0 l1 l2
    go_enter Tryd.func4, Tryd.ntmps4
    go_wp2_with fail
    refine (HAw.out _ HB0.out).mono ?_
    rintro e w2 ⟨rfl, hb2⟩
    have HB2 := Lib.hid (onF HB0.out hb2)
    clear hb2 r0 r1
    go_wp2_with fail
    go_ret
    exact ⟨rfl, HB2.out⟩
  have i2 : ¬ (40 : Int) < (L2.length : Int) := by omega
  have HL := Lib.hid (And.intro l0 (And.intro l1 l2))
  clear hb0 q0 q1 h0 h1 h2 hok1 hok2 C hbd hrel l0 l1 l2
  go_enter Tryd.func4, Tryd.ntmps4
  go_wp2_with fail
  generalize (w.alloc (.cells #[.slice a1 L1.length c1, .slice a2 L2.length c2] 49)).alloc (.cells #[.int .i64 p, .int .i64 day] 24) = w0 at *
  refine (HMd.out _ HS.out.2.1).mono ?_
  rintro e w1 ⟨B, bf, bc, rfl, hm, hB, hbf, hbc, hb1⟩
  have HM := Lib.hid hm
  have HZ := Lib.hid (And.intro hB (And.intro hbf hbc))
  have HB1 := Lib.hid hb1
  clear r0 r1
  have q0 := keepF hb1 HR.out.2.2.1
  have q1 := keepF hb1 HR.out.2.2.2
  have HVa := Lib.hid (vat_any t (by have := HL.out.1; omega) HBd.out _ w1 (HS.out.1.keep hb1) (HS.out.2.2.2.keep hb1) p day hm HRel.out.1 HRel.out.2)
  clear hm hB hbf hbc hb1 HMd
  go_wp2_with fail
  refine HVa.out.mono ?_
  rintro e w2 ⟨rfl, hb2⟩
  have HB2 := Lib.hid (onF HB1.out hb2)
  have HM2 := Lib.hid (HM.out.keep hb2)
  have HX := Lib.hid (And.intro HM.out.hf.lt (And.intro HM.out.hc.lt hb2.size))
  clear q0 q1 hb2 HVa HM HB1
  obtain ⟨E, hE⟩ : ∃ E, E = atE t (plF L1) p day := ⟨_, rfl⟩
  obtain ⟨vb, hvb⟩ : ∃ vb, vb = vB (atV t (plF L1) p day) := ⟨_, rfl⟩
  obtain ⟨vn, hvn⟩ : ∃ vn, vn = vN (atV t (plF L1) p day) := ⟨_, rfl⟩
  obtain ⟨vd, hvd⟩ : ∃ vd, vd = vD (atV t (plF L1) p day) := ⟨_, rfl⟩
  rw [← hE, ← hvb, ← hvn, ← hvd]
  have HV := Lib.hid (And.intro hE (And.intro hvb (And.intro hvn hvd)))
  clear hE hvb hvn hvd
  go_wp2_with fail
  go_loopw [10] (fun vi wx => ∃ i : Nat, i ≤ L2.length ∧ vi = .int .i64 (i : Nat) ∧ StaS w0 wx B bf bc (L1.length + i) w2.heap.size (plF L1) vb vn vd) (fun vi _ => L2.length - (RowKit.intOf vi).toNat)
  case atStart => exact ⟨0, Nat.zero_le _, rfl, ⟨⟨_, _, _, HM2.out.keep (newF _ _), HRel.out.1, HRel.out.2, MoreL.refl _⟩, onF HB2.out (newF _ _), by rw [World.cell?_alloc_at _ _ _ _ rfl]; rfl, by rw [World.cell?_alloc_at _ _ _ _ rfl]; rfl, by rw [World.cell?_alloc_at _ _ _ _ rfl]; rfl⟩⟩
  case round =>
    obtain ⟨i, hi, rfl, hs⟩ := hrel
    have HSr := Lib.hid hs
    have r1 := keepF hs.bel HR.out.2.1
    clear hs
    by_cases hlt : i < L2.length
    · have p0 : (0 : Int) ≤ (i : Int) := by omega
      have p1 : (i : Int) < (L2.length : Int) := by omega
      obtain ⟨bb, o, cap, hv, hc1, hc2, hT⟩ : ∃ b o cap, Value.slice a2 L2.length c2 = .slice (some ⟨b, o, none⟩) L2.length cap ∧ L2.length ≤ cap ∧ cap ≤ 9223372036854775807 ∧ ∀ j, j < L2.length → TolC w0 b (o + j * 6) (L2.getD j default) := by
        rcases HS.out.2.2.1 with ⟨e, _⟩ | ⟨_, b, o, cap, h1, h2, h3, h4⟩
        · rw [e] at hlt; exact absurd hlt (Nat.not_lt_zero _)
        · exact ⟨b, o, cap, h1, h2, h3, h4⟩
      injection hv with hv1 _ hv3
      subst hv1 hv3
      obtain ⟨k0, k1, k2, k3, k4, k5⟩ := (hT i hlt).keep HSr.out.bel
      have HLt := Lib.hid hlt
      have HOi := Lib.hid (HOk.out i hlt)
      obtain ⟨D, Dc, l', hm, hr, hO, hMo⟩ := HSr.out.fac
      have HFx := Lib.hid (fun (w' : World) (hb : Below wr.heap.size wr w') => fixing_l w' (hm.keep hb) hr (L2.getD i default).k (L2.getD i default).d HOi.out.1 HOi.out.2.1)
      generalize L2.getD i default = x at *
      have HTl := Lib.hid (fun (w' : World) (hm' : FacM w' B bf bc (L1.length + i) D Dc) => tell_any w' hm' (by have := HL.out; unfold maxLen; omega) x HOi.out)
      have HSt := Lib.hid (fun (h : (gtL l' x.k x.d).2.2 = false) => And.intro (rel_stF hr x HOi.out) (And.intro (okL_stF hO x HOi.out) (hMo.trans (stF_more hr.srt x h))))
      have HMr := Lib.hid hm
      obtain ⟨tc, tk, td, tx, ty, tp⟩ := x
      unfold tolV at HTl
      dsimp only at k0 k1 k2 k3 k4 k5 HFx HSt HTl
      generalize gtL l' tk td = G at *
      obtain ⟨gx, gy, gi⟩ := G
      dsimp only at HFx HSt
      have y0 : (wr.alloc (.cells #[.bool tc, .int .i64 tk, .int .i64 td, .int .i64 tx, .int .i64 ty, .int .i64 tp] 51)).cell? ⟨wr.heap.size, 0, none⟩ = some (.bool tc) := by rw [World.cell?_alloc_at _ _ _ _ rfl]; rfl
      have y1 : (wr.alloc (.cells #[.bool tc, .int .i64 tk, .int .i64 td, .int .i64 tx, .int .i64 ty, .int .i64 tp] 51)).cell? ⟨wr.heap.size, 1, none⟩ = some (.int .i64 tk) := by rw [World.cell?_alloc_at _ _ _ _ rfl]; rfl
      have y2 : (wr.alloc (.cells #[.bool tc, .int .i64 tk, .int .i64 td, .int .i64 tx, .int .i64 ty, .int .i64 tp] 51)).cell? ⟨wr.heap.size, 2, none⟩ = some (.int .i64 td) := by rw [World.cell?_alloc_at _ _ _ _ rfl]; rfl
      have y3 : (wr.alloc (.cells #[.bool tc, .int .i64 tk, .int .i64 td, .int .i64 tx, .int .i64 ty, .int .i64 tp] 51)).cell? ⟨wr.heap.size, 3, none⟩ = some (.int .i64 tx) := by rw [World.cell?_alloc_at _ _ _ _ rfl]; rfl
      have y4 : (wr.alloc (.cells #[.bool tc, .int .i64 tk, .int .i64 td, .int .i64 tx, .int .i64 ty, .int .i64 tp] 51)).cell? ⟨wr.heap.size, 4, none⟩ = some (.int .i64 ty) := by rw [World.cell?_alloc_at _ _ _ _ rfl]; rfl
      have y5 : (wr.alloc (.cells #[.bool tc, .int .i64 tk, .int .i64 td, .int .i64 tx, .int .i64 ty, .int .i64 tp] 51)).cell? ⟨wr.heap.size, 5, none⟩ = some (.int .i64 tp) := by rw [World.cell?_alloc_at _ _ _ _ rfl]; rfl
      have HY := Lib.hid (And.intro y0 (And.intro y1 (And.intro y2 (And.intro y3 (And.intro y4 y5)))))
      clear hlt hT hm hr hO hMo y0 y1 y2 y3 y4 y5
      go_wp2_with fail
      refine (HFx.out _ (newF _ _)).mono ?_
      rintro e w4 ⟨rfl, hb4⟩
      have HB4 := Lib.hid (onF (newF wr _) hb4)
      have HS4 := Lib.hid (HSr.out.keep (onF (onF (newF wr _) hb4) (newF w4 (.cells #[.int .i64 gx, .int .i64 gy] 38))))
      have HM4 := Lib.hid (HMr.out.keep (onF (onF (newF wr _) hb4) (newF w4 (.cells #[.int .i64 gx, .int .i64 gy] 38))))
      have y0 := keepF (newF w4 (.cells #[.int .i64 gx, .int .i64 gy] 38)) (keepF hb4 HY.out.1)
      have y1 := keepF (newF w4 (.cells #[.int .i64 gx, .int .i64 gy] 38)) (keepF hb4 HY.out.2.1)
      have y2 := keepF (newF w4 (.cells #[.int .i64 gx, .int .i64 gy] 38)) (keepF hb4 HY.out.2.2.1)
      have y3 := keepF (newF w4 (.cells #[.int .i64 gx, .int .i64 gy] 38)) (keepF hb4 HY.out.2.2.2.1)
      have y4 := keepF (newF w4 (.cells #[.int .i64 gx, .int .i64 gy] 38)) (keepF hb4 HY.out.2.2.2.2.1)
      have y5 := keepF (newF w4 (.cells #[.int .i64 gx, .int .i64 gy] 38)) (keepF hb4 HY.out.2.2.2.2.2)
      clear hb4 HFx HSr HMr k0 k1 k2 k3 k4 k5 r1
      cases gi with
      | true =>
        clear y0 y1 y2 y3 y4 y5
        go_wp2_with fail
        go_roundw
        case rel => exact ⟨i + 1, HLt.out, by go_num, HS4.out.up⟩
        case measure => have := HLt.out; simp [RowKit.intOf]; omega
      | false =>
        go_wp2_with fail
        refine (HTl.out _ HM4.out).mono ?_
        rintro e w6 ⟨rfl, row, hm6, hg, hrow⟩
        have HS6 := Lib.hid (HS4.out.tell hg hrow ⟨HZ.out.2.1, HZ.out.2.2⟩ ⟨Nat.lt_of_lt_of_le HX.out.1 HX.out.2.2, Nat.lt_of_lt_of_le HX.out.2.1 HX.out.2.2⟩ hm6 (HSt.out (by first | rfl | trivial)).1 (HSt.out (by first | rfl | trivial)).2.1 (HSt.out (by first | rfl | trivial)).2.2)
        clear hm6 hg hrow y0 y1 y2 y3 y4 y5 HTl HM4 HS4 HSt
        go_wp2_with fail
        go_roundw
        case rel => exact ⟨i + 1, HLt.out, by go_num, HS6.out⟩
        case measure => have := HLt.out; simp [RowKit.intOf]; omega
    · have hie : i = L2.length := by omega
      subst hie
      have p1 : ¬ (L2.length : Int) < (L2.length : Int) := by omega
      obtain ⟨D, Dc, l', hm, hr, hO, hMo⟩ := HSr.out.fac
      have HVb := Lib.hid (vat_any t (by have := HL.out.1; omega) HBd.out _ wr (HS.out.1.keep HSr.out.bel) (HS.out.2.2.2.keep HSr.out.bel) p day hm hr hO)
      have hA := at_stays (t := t) hMo p day
      rw [← HV.out.1, ← HV.out.2.1, ← HV.out.2.2.1, ← HV.out.2.2.2] at hA
      have HA := Lib.hid hA
      have q0 := keepF HSr.out.bel HR.out.2.2.1
      have q1 := keepF HSr.out.bel HR.out.2.2.2
      clear hA hm hr hO hMo hlt hi HV
      generalize atE t l' p day = E' at *
      generalize vB (atV t l' p day) = wb at *
      generalize vN (atV t l' p day) = wn at *
      generalize vD (atV t l' p day) = wd at *
      go_wp2_with fail
      refine HVb.out.mono ?_
      rintro e w5 ⟨rfl, hb5⟩
      have z0 := keepF (newF w5 (.cells #[.bool wb, .int .i64 wn, .int .i64 wd] 45)) (keepF hb5 HSr.out.c0)
      have z1 := keepF (newF w5 (.cells #[.bool wb, .int .i64 wn, .int .i64 wd] 45)) (keepF hb5 HSr.out.c1)
      have z2 := keepF (newF w5 (.cells #[.bool wb, .int .i64 wn, .int .i64 wd] 45)) (keepF hb5 HSr.out.c2)
      have HB5 := Lib.hid (onF HB0.out (onF HSr.out.bel hb5))
      clear hb5 q0 q1 HVb HSr r1
      by_cases e0 : E = 0
      · subst e0
        obtain ⟨hA1, hA2⟩ := HA.out.2 rfl
        clear HA
        cases vb with
        | false =>
          clear hA1
          rcases hA2 with rfl | ⟨rfl, rfl, rfl, rfl⟩
          · go_wp2_with fail
            refine (HAw.out _ (onF HB5.out (newF w5 _))).mono ?_
            rintro e w7 ⟨rfl, hb7⟩
            have HB7 := Lib.hid (onF (onF HB5.out (newF w5 _)) hb7)
            clear hb7 z0 z1 z2
            go_wp2_with fail
            go_ret
            exact ⟨rfl, HB7.out⟩
          · go_wp2_with fail
            refine (HAw.out _ (onF HB5.out (newF w5 _))).mono ?_
            rintro e w7 ⟨rfl, hb7⟩
            have HB7 := Lib.hid (onF (onF HB5.out (newF w5 _)) hb7)
            clear hb7 z0 z1 z2
            go_wp2_with fail
            go_ret
            exact ⟨rfl, HB7.out⟩
        | true =>
          rcases hA1 with h | ⟨rfl, rfl, rfl, rfl⟩
          · cases h
          · clear hA2
            go_wp2_with fail
            refine (HAw.out _ (onF HB5.out (newF w5 _))).mono ?_
            rintro e w7 ⟨rfl, hb7⟩
            have HB7 := Lib.hid (onF (onF HB5.out (newF w5 _)) hb7)
            clear hb7 z0 z1 z2
            go_wp2_with fail
            go_ret
            exact ⟨rfl, HB7.out⟩
      · obtain ⟨⟨rfl, rfl, rfl⟩, rfl⟩ := HA.out.1 e0
        have e0' : (E' != 0) = true := bne_iff_ne.2 e0
        have e0'' : (E' == 0) = false := beq_false_of_ne e0
        clear e0 HA
        go_wp2_with fail
        refine (HAw.out _ (onF HB5.out (newF w5 _))).mono ?_
        rintro e w7 ⟨rfl, hb7⟩
        have HB7 := Lib.hid (onF (onF HB5.out (newF w5 _)) hb7)
        clear hb7 z0 z1 z2
        go_wp2_with fail
        go_ret
        exact ⟨rfl, HB7.out⟩

end Go.Proofs.YtddhdafknmbckaaDoor

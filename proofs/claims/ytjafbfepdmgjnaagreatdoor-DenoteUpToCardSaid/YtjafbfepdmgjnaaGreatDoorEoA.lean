/-
  chattellaw09.DenoteUpTo: its walk.
-/
import Derived.Test.YtjafbfepdmgjnaaGreatDoorEW
namespace Go.Proofs.YtjafbfepdmgjnaaGreatDoor
open Go.RowKit Go.Lib Go.Shelf Go.Maps
set_option linter.unusedVariables false
set_option linter.unusedSimpArgs false

theorem ct0_of {t : List Nd} (h : chkK t = 0) : (ofK t).2 = 0 ∧ CtA t 0 := by
  have hk := chk_mk h
  exact ⟨hk.1, ⟨by have := (ofK_zero hk.1).2.1; have := whole_len this; omega, hk.2⟩⟩
theorem up_er {t : List Nd} {lf lc : List Fct} (hof : OkL lf) (hoc : ∀ x ∈ lc, x.p = 1 ∨ x.p = 2) (hs : Srt lc) {fr tu day : Int} (h : erD t lf lc fr tu = 0) (h1 : -1 ≤ day) (h2 : day ≤ tu) :
    erD t lf lc fr day = 0 ∧ (reD t lf lc fr day).1 = tilF day (reD t lf lc fr tu).1 ∧ ∀ f ∈ (reD t lf lc fr tu).1, fr ≤ f.d ∧ f.d ≤ tu ∧ f.n ≠ 0 := by
  obtain ⟨k1, k2, k3⟩ := erD_zero h
  obtain ⟨g1, g2⟩ := ct0_of k1
  have hE := env_okL hof hoc
  have htu : tu ≤ 73048 := by unfold badD at k2; omega
  have hb : ¬ badD fr day := by unfold badD at *; omega
  obtain ⟨ws', e⟩ := dn_up g1 hE (env_cut hs) htu h2 (x := ⟨0, fr, 1⟩) g2 (fl := (reD t lf lc fr tu).1) (ws := (reD t lf lc fr tu).2) k3
  refine ⟨?_, ?_, fun f hf => dn_days g1 hE htu (x := ⟨0, fr, 1⟩) g2 (fl := (reD t lf lc fr tu).1) (ws := (reD t lf lc fr tu).2) k3 f hf⟩
  · unfold erD
    rw [if_neg (by omega), if_neg hb, if_neg (by rw [e]; simp)]
  · generalize (reD t lf lc fr tu).1 = x at *
    unfold reD
    rw [e]; rfl
theorem tilF_perm {d : Int} {a b : List Flw} (h : a.Perm b) : (tilF d a).Perm (tilF d b) := h.filter _
theorem tilF_srt {d : Int} {a : List Flw} (h : SrF a) : SrF (tilF d a) := List.Pairwise.filter _ h
theorem take_flw {L : List Flw} {i : Nat} (h : i < L.length) : L.take (i + 1) = L.take i ++ [L.getD i default] := by
  rw [List.take_add_one, List.getElem?_eq_getElem h, List.getD_eq_getElem?_getD, List.getElem?_eq_getElem h]; rfl
theorem tilF_yes {d : Int} {x : Flw} (l : List Flw) (h : x.d ≤ d) : tilF d (l ++ [x]) = tilF d l ++ [x] := by rw [tilF_app, tilF_all (fl := [x]) (fun f hf => by rw [List.mem_singleton.1 hf]; exact h)]
theorem tilF_no {d : Int} {x : Flw} (l : List Flw) (h : ¬ x.d ≤ d) : tilF d (l ++ [x]) = tilF d l := by rw [tilF_app, tilF_none (fl := [x]) (fun f hf => by rw [List.mem_singleton.1 hf]; omega), List.append_nil]
theorem tilF_len (d : Int) (l : List Flw) : (tilF d l).length ≤ l.length := List.length_filter_le _ _
set_option maxRecDepth 100000 in
set_option maxHeartbeats 4000000 in
theorem up_walk (w : World) (t : List Nd) (hbd : BdT t) (v0 : Value) (h0 : SlT w v0 t) (fr tu : Int) (L : List Tol) (s1 : Value) (h1 : SlTol w s1 L) (hok1 : ∀ j, j < L.length → (L.getD j default).Ok) (day : Int) (C : KndW w) :
    Calls Tryz.prog 4 #[.agg #[v0, .int .i64 fr, .int .i64 tu, s1], .int .i64 day] w fun e w' => e = .returned (.bool true) ∧ Below w.heap.size w w' := by
  obtain ⟨a0, c0, rfl⟩ := h0.slice
  obtain ⟨a1, c1, rfl⟩ : ∃ a c, s1 = .slice a L.length c := by
    rcases h1 with ⟨rfl, a, c, rfl⟩ | ⟨_, b, o, c, rfl, _⟩
    · exact ⟨_, _, rfl⟩
    · exact ⟨_, _, rfl⟩
  have HAw := Lib.hid (fun (w' : World) (hb : Below w.heap.size w w') => awake9_any w' (C.keep hb))
  have hb0 := newF w (.cells #[.slice a0 t.length c0, .int .i64 fr, .int .i64 tu, .slice a1 L.length c1] 25)
  have rr : ∀ k v, (#[.slice a0 t.length c0, .int .i64 fr, .int .i64 tu, .slice a1 L.length c1] : Array Value)[k]? = some v → (w.alloc (.cells #[.slice a0 t.length c0, .int .i64 fr, .int .i64 tu, .slice a1 L.length c1] 25)).cell? ⟨w.heap.size, k, none⟩ = some v := fun k v hv => by rw [World.cell?_alloc_at _ _ _ _ rfl]; exact hv
  have r0 := rr 0 (.slice a0 t.length c0) rfl
  have r1 := rr 1 (.int .i64 fr) rfl
  have r2 := rr 2 (.int .i64 tu) rfl
  have r3 := rr 3 (.slice a1 L.length c1) rfl
  have HR := Lib.hid (And.intro r0 (And.intro r1 (And.intro r2 r3)))
  have HB0 := Lib.hid hb0
  have HS := Lib.hid (And.intro (h0.keep hb0) (And.intro (h1.keep hb0) (C.keep hb0)))
  have HMd := Lib.hid (fun (w' : World) (hs : SlTol w' (.slice a1 L.length c1) L) => made_any w' _ L hs hok1)
  have HFw := Lib.hid (fun (w' : World) => few_any w' a0 a1 t.length L.length c0 c1 fr tu)
  have hrel := rel_made L L.length (Nat.le_refl _) hok1
  rw [List.take_length] at hrel
  have HRel := Lib.hid (And.intro hrel.1 (And.intro hrel.2.1 (And.intro (plF_ok L (ok_mem hok1)) (plC_ok L))))
  have HBd := Lib.hid hbd
  obtain ⟨few, hfew⟩ : ∃ b, b = decide (t.length ≤ 100 ∧ L.length ≤ 60) := ⟨_, rfl⟩
  rw [← hfew] at HFw
  have HF := Lib.hid hfew
  clear hb0 rr r0 r1 r2 h0 h1 hok1 C hbd hrel hfew
  go_enter Tryz.func4, Tryz.ntmps4
  go_wp2_with fail
  generalize w.alloc (.cells #[.slice a0 t.length c0, .int .i64 fr, .int .i64 tu, .slice a1 L.length c1] 25) = w0 at *
  refine (HMd.out _ HS.out.2.1).mono ?_
  rintro e w1 ⟨B, bf, bc, rfl, hm, hB, hbf, hbc, hb1⟩
  have HM := Lib.hid hm
  have HB1 := Lib.hid hb1
  have HBw := Lib.hid (onF HB0.out hb1)
  have r0 := keepF hb1 HR.out.1
  have r1 := keepF hb1 HR.out.2.1
  have r2 := keepF hb1 HR.out.2.2.1
  have r3 := keepF hb1 HR.out.2.2.2
  clear hm hB hbf hbc hb1 HMd
  go_wp2_with fail
  refine (HFw.out _).mono ?_
  rintro e w2 ⟨rfl, hb2⟩
  have HB2 := Lib.hid (onF HBw.out hb2)
  have HM2 := Lib.hid (HM.out.keep hb2)
  have HS2 := Lib.hid (And.intro ((HS.out.1.keep HB1.out).keep hb2) ((HS.out.2.2.keep HB1.out).keep hb2))
  have r0 := keepF hb2 r0
  have r1 := keepF hb2 r1
  have r2 := keepF hb2 r2
  have HR2 := Lib.hid (And.intro r0 (And.intro r1 r2))
  clear hb2 HFw HM HB1 HBw HB0 HR HS r3
  cases few with
  | false =>
    clear r0 r1 r2
    go_wp2_with fail
    refine (HAw.out _ HB2.out).mono ?_
    rintro e w3 ⟨rfl, hb3⟩
    have HB3 := Lib.hid (onF HB2.out hb3)
    clear hb3
    go_wp2_with fail
    go_ret
    exact ⟨rfl, HB3.out⟩
  | true =>
    by_cases l1 : tu < day
    · clear r0 r1
      go_wp2_with fail
      refine (HAw.out _ HB2.out).mono ?_
      rintro e w3 ⟨rfl, hb3⟩
      have HB3 := Lib.hid (onF HB2.out hb3)
      clear hb3 r2
      go_wp2_with fail
      go_ret
      exact ⟨rfl, HB3.out⟩
    by_cases l2 : day < -1
    · clear r0 r1
      go_wp2_with fail
      refine (HAw.out _ HB2.out).mono ?_
      rintro e w3 ⟨rfl, hb3⟩
      have HB3 := Lib.hid (onF HB2.out hb3)
      clear hb3 r2
      go_wp2_with fail
      go_ret
      exact ⟨rfl, HB3.out⟩
    have hl : t.length ≤ 100 ∧ L.length ≤ 60 := of_decide_eq_true HF.out.symm
    have HD := Lib.hid (And.intro l1 (And.intro l2 hl))
    have HFl := Lib.hid (fun (w' : World) (hb : Below w2.heap.size w2 w') (d : Int) => flows_any w' t (by omega) HBd.out _ (HS2.out.1.keep hb) (HS2.out.2.keep hb) fr d (HM2.out.keep hb) HRel.out.1 HRel.out.2.1 HRel.out.2.2.1 HRel.out.2.2.2)
    have HF1 := Lib.hid (HFl.out w2 (Below.refl _ _) tu)
    clear hl
    go_wp2_with fail
    refine HF1.out.mono ?_
    rintro e w3 ⟨hb3, va, ma, rfl, ho, hml, hsr, hne, hp⟩
    have HO := Lib.hid ho
    have HP := Lib.hid (And.intro hml (And.intro hsr (And.intro hne hp)))
    have HB3 := Lib.hid hb3
    obtain ⟨aa, ac, rfl⟩ := ho.slice
    have r0 := keepF hb3 HR2.out.1
    have r1 := keepF hb3 HR2.out.2.1
    have r2 := keepF hb3 HR2.out.2.2
    have HF2 := Lib.hid (HFl.out w3 hb3 day)
    clear ho hml hsr hne hp hb3 HF1 HFl
    go_wp2_with fail
    refine HF2.out.mono ?_
    rintro e w4 ⟨hb4, vb, mb, rfl, ho, hml, hsr, hne, hp⟩
    have HO2 := Lib.hid ho
    have HP2 := Lib.hid (And.intro hml (And.intro hsr (And.intro hne hp)))
    have HB4 := Lib.hid (onF HB2.out (onF HB3.out hb4))
    have HOa := Lib.hid (HO.out.grown hb4)
    obtain ⟨ba, bc, rfl⟩ := ho.slice
    have r0 := keepF hb4 r0
    have r1 := keepF hb4 r1
    have r2 := keepF hb4 r2
    clear ho hml hsr hne hp hb4 HF2 HO
    have HUp := Lib.hid (fun (h : erD t (plF L) (plC L) fr tu = 0) => up_er (day := day) HRel.out.2.2.1 HRel.out.2.2.2 HRel.out.2.1.srt h (by have := HD.out.2.1; omega) (by have := HD.out.1; omega))
    generalize erD t (plF L) (plC L) fr tu = E1 at *
    generalize erD t (plF L) (plC L) fr day = E2 at *
    by_cases e0 : E1 = 0
    · subst e0
      obtain ⟨rfl, u2, u3⟩ := HUp.out rfl
      have hpa := HP.out.2.2.2 rfl
      have hmb : mb = tilF day ma := srF_uniq HP2.out.2.1 (tilF_srt HP.out.2.1) ((HP2.out.2.2.2 rfl).trans (by rw [u2]; exact (tilF_perm hpa).symm))
      subst hmb
      have HY : Hid (∀ i, i < ma.length → fr ≤ (ma.getD i default).d ∧ (ma.getD i default).d ≤ tu ∧ (ma.getD i default).n ≠ 0) := Lib.hid (fun i hi => u3 _ (hpa.mem_iff.1 (by rw [List.getD_eq_getElem?_getD, List.getElem?_eq_getElem hi]; exact List.getElem_mem hi)))
      have HLm := Lib.hid HP.out.1
      have HRa := Lib.hid (OwnX.row (E := flL) (k := 3) (fun _ => rfl) HOa.out)
      have HRb := Lib.hid (OwnX.row (E := flL) (k := 3) (fun _ => rfl) HO2.out)
      have HR4 := Lib.hid (And.intro r1 r2)
      clear u2 u3 hpa HUp HP HP2 r0 r1 r2 HOa HO2
      go_wp2_with fail
      go_loopw [11, 10] (fun vi vv wx => ∃ i : Nat, i ≤ ma.length ∧ vi = .int .i64 (i : Nat) ∧ OwnX flL 3 50 wx w4.heap.size vv (tilF day (ma.take i)) ∧ Below w4.heap.size w4 wx) (fun vi _ _ => ma.length - (RowKit.intOf vi).toNat)
      case atStart => exact ⟨0, Nat.zero_le _, rfl, OwnX.nil _ _ _ _ _, Below.refl _ _⟩
      case round =>
        obtain ⟨i, hi, rfl, ho, hb⟩ := hrel
        have HO := Lib.hid ho
        have HB := Lib.hid hb
        by_cases hlt : i < ma.length
        · have p0 : (0 : Int) ≤ (i : Int) := by omega
          have p1 : (i : Int) < (ma.length : Int) := by omega
          have HLt := Lib.hid hlt
          obtain ⟨ga, oa, ca1, hv, hf1, hf2, hTa⟩ : ∃ g o cap, Value.slice aa ma.length ac = .slice (some ⟨g, o, none⟩) ma.length cap ∧ ma.length ≤ cap ∧ cap ≤ 9223372036854775807 ∧ ∀ j, j < ma.length → ∀ i c, i < 3 → (flL (ma.getD j default))[i]? = some c → w4.cell? ⟨g, o + j * 3 + i, none⟩ = some c := by
            rcases HRa.out with ⟨e, _⟩ | ⟨_, g, o, cap, h1, h2, h3, h4⟩
            · rw [e] at hlt; exact absurd hlt (Nat.not_lt_zero _)
            · exact ⟨g, o, cap, h1, h2, h3, h4⟩
          injection hv with hv1 _ hv3
          subst hv1 hv3
          have HTk := Lib.hid (take_flw hlt)
          have HYi := Lib.hid (HY.out i hlt)
          have HT : Hid (∀ wx, Below w4.heap.size w4 wx → wx.cell? ⟨ga, oa + i * 3, none⟩ = some (.int .i64 (ma.getD i default).d) ∧ wx.cell? ⟨ga, oa + i * 3 + 1, none⟩ = some (.int .i64 (ma.getD i default).c) ∧ wx.cell? ⟨ga, oa + i * 3 + 2, none⟩ = some (.int .i64 (ma.getD i default).n)) := Lib.hid (fun wx hb => ⟨keepF hb (hTa i hlt 0 _ (by omega) rfl), keepF hb (hTa i hlt 1 _ (by omega) rfl), keepF hb (hTa i hlt 2 _ (by omega) rfl)⟩)
          generalize ma.getD i default = y at *
          obtain ⟨yd, yc, yn⟩ := y
          dsimp only at HT HYi
          obtain ⟨k0, k1, k2⟩ := HT.out wr hb
          have y1 : ¬ yd < fr := by have := HYi.out.1; omega
          have y2 : ¬ tu < yd := by have := HYi.out.2.1; omega
          have y3 : (yn == 0) = false := beq_false_of_ne HYi.out.2.2
          have HN := Lib.hid (Nat.le_trans (tilF_len day (ma.take i)) (by rw [List.length_take]; exact Nat.le_trans (Nat.min_le_right _ _) HLm.out))
          obtain ⟨va, vc, rfl⟩ := ho.slice
          clear hTa hlt ho hb
          by_cases hd : yd ≤ day
          · have HTl := Lib.hid (tilF_yes (x := ⟨yd, yc, yn⟩) (ma.take i) hd)
            go_wp2_with (at_builtin; refine wpList_append_x (E := flL) (k := 3) (fun _ => rfl) (by decide) flL_one Tryz.underlying30 infoFl rfl (by decide) rfl _ _ rfl w4.heap.size _ (tilF day (ma.take i)) rfl (HO.out.grown (newF wr _)) _ [⟨yd, yc, yn⟩] rfl (rowx_new (E := flL) (k := 3) (fun _ => rfl) wr ⟨yd, yc, yn⟩ #[.int .i64 yd, .int .i64 yc, .int .i64 yn] (by rfl) 50 _ rfl) (by have := HN.out; simp; omega) (Nat.le_trans HB.out.size (by simp)) ?_; intro v5 w5 ho5 hg5 hat5; have HO5 := Lib.hid ho5; have HB5 : Hid (Below w4.heap.size w4 w5) := Lib.hid (Below.grown (Below.alloc HB.out HB.out.size _) hg5 (Nat.le_trans HB.out.size (by simp)) (fun k hk => (HO.out.lt k hk).1)); obtain ⟨k0, k1, k2⟩ := HT.out w5 HB5.out; have r1 := keepF HB5.out HR4.out.1; have r2 := keepF HB5.out HR4.out.2; obtain ⟨sb, sd, rfl⟩ := ho5.slice; clear ho5 hg5 hat5)
            go_quiet (fail)
            go_wp2_with fail
            go_roundw
            case rel => exact ⟨i + 1, HLt.out, by go_num, by rw [HTk.out, HTl.out]; have := HO5.out.grown (below_drewE w5 nq); rw [List.length_append] at this; exact this, HB5.out.trans ((below_drewE _ _).mono HB5.out.size)⟩
            case measure => have := HLt.out; simp [RowKit.intOf]; omega
          · have HTl := Lib.hid (tilF_no (x := ⟨yd, yc, yn⟩) (ma.take i) hd)
            have r1 := keepF HB.out HR4.out.1
            have r2 := keepF HB.out HR4.out.2
            go_wp2_with fail
            go_quiet (fail)
            go_wp2_with fail
            go_roundw
            case rel => exact ⟨i + 1, HLt.out, by go_num, by rw [HTk.out, HTl.out]; exact HO.out.grown (below_drewE _ _), onF HB.out (below_drewE _ _)⟩
            case measure => have := HLt.out; simp [RowKit.intOf]; omega
        · have hie : i = ma.length := by omega
          subst hie
          have p1 : ¬ (ma.length : Int) < (ma.length : Int) := by omega
          rw [List.take_length] at ho
          have HEq := Lib.hid (flows_eq wr _ _ _ (HRb.out.keep hb) (OwnX.row (E := flL) (k := 3) (fun _ => rfl) ho))
          have HBe := Lib.hid (onF HB4.out hb)
          obtain ⟨va, vc, rfl⟩ := ho.slice
          clear ho hb hlt hi HO HB HRa HRb
          go_wp2_with fail
          refine HEq.out.mono ?_
          rintro e w5 ⟨rfl, hb5⟩
          have HB5 := Lib.hid (onF HBe.out hb5)
          clear hb5 HEq
          go_wp2_with fail
          refine (HAw.out _ HB5.out).mono ?_
          rintro e w6 ⟨rfl, hb6⟩
          have HB6 := Lib.hid (onF HB5.out hb6)
          clear hb6
          go_wp2_with fail
          go_ret
          exact ⟨rfl, HB6.out⟩
    · have hm := HP.out.2.2.1 e0
      subst hm
      have e0' : (E1 != 0) = true := bne_iff_ne.2 e0
      have e0'' : (E1 == 0) = false := beq_false_of_ne e0
      rw [List.length_nil]
      clear HUp HP HP2 r0 r1 r2 HOa HO2 e0
      go_wp2_with fail
      refine (HAw.out _ HB4.out).mono ?_
      rintro e w5 ⟨rfl, hb5⟩
      have HB5 := Lib.hid (onF HB4.out hb5)
      clear hb5
      go_wp2_with fail
      go_ret
      exact ⟨rfl, HB5.out⟩

end Go.Proofs.YtjafbfepdmgjnaaGreatDoor

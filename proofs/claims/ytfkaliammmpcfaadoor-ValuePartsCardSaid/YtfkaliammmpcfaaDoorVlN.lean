/-
  chattellaw08.ValueOnes: its walk.
-/
import Derived.Test.YtfkaliammmpcfaaDoorVlR
namespace Go.Proofs.YtfkaliammmpcfaaDoor
open Go.RowKit Go.Lib Go.Shelf Go.Maps
set_option linter.unusedVariables false
set_option linter.unusedSimpArgs false

/-- Facts, and a value that is kept aside. -/
structure OneS (w0 wx : World) (B bf bc n X : Nat) (Df Dc : DataW Unit) (vb : Bool) (vn vd : Int) : Prop where
  fac : FacM wx B bf bc n Df Dc
  bel : Below w0.heap.size w0 wx
  c0 : wx.cell? ⟨X, 0, none⟩ = some (.bool vb)
  c1 : wx.cell? ⟨X, 1, none⟩ = some (.int .i64 vn)
  c2 : wx.cell? ⟨X, 2, none⟩ = some (.int .i64 vd)
theorem OneS.keep {w0 wx wy : World} {B bf bc n X : Nat} {Df Dc : DataW Unit} {vb : Bool} {vn vd : Int} (h : OneS w0 wx B bf bc n X Df Dc vb vn vd) (hb : Below wx.heap.size wx wy) : OneS w0 wy B bf bc n X Df Dc vb vn vd :=
  ⟨h.fac.keep hb, onF h.bel hb, keepF hb h.c0, keepF hb h.c1, keepF hb h.c2⟩
theorem OneS.app {w0 wx wy : World} {B bf bc n X : Nat} {Df Dc : DataW Unit} {vb : Bool} {vn vd : Int} (h : OneS w0 wx B bf bc n X Df Dc vb vn vd) {base : Nat} {v : Value} {t : List Nd} (ho : OwnN wx base v t) (hz : w0.heap.size ≤ base) (hB : B < base) (hf : bf < base) (hc : bc < base) (hX : X < base) (hg : wx.grownBy wy v.ownBlock) : OneS w0 wy B bf bc n X Df Dc vb vn vd := by
  have lt : ∀ k, v.ownBlock = some k → base ≤ k := fun k hk => (World.ownsRow.lt ho k hk).1
  have ne : ∀ k, k < base → some k ≠ v.ownBlock := fun k hk e => by have := lt k e.symm; omega
  have far : ∀ i z, wx.cell? ⟨X, i, none⟩ = some z → wy.cell? ⟨X, i, none⟩ = some z := fun i z hc => (World.cell?_of_block (hg.block X (ltF hc) (ne X hX))).trans hc
  exact ⟨h.fac.grown hg (ne _ hB) (ne _ hf) (ne _ hc), h.bel.grown hg h.bel.size (fun k hk => by have := lt k hk; omega), far _ _ h.c0, far _ _ h.c1, far _ _ h.c2⟩
theorem bdT_app {t u : List Nd} (h : BdT t) (h' : BdT u) : BdT (t ++ u) := fun p hp => by
  rw [List.length_append] at hp
  by_cases c : p < t.length
  · rw [List.getD_eq_getElem?_getD, List.getElem?_append_left c, ← List.getD_eq_getElem?_getD]; exact h p c
  · rw [List.getD_eq_getElem?_getD, List.getElem?_append_right (by omega), ← List.getD_eq_getElem?_getD]; exact h' _ (by omega)
theorem bdT_one (op : Int) : BdT [⟨op, 0, 0, 0, 0⟩] := fun p hp => by
  obtain rfl : p = 0 := by simp at hp; omega
  refine ⟨?_, ?_⟩
  · show I64T 0
    exact ⟨by decide, by decide⟩
  · show I64T 0
    exact ⟨by decide, by decide⟩
theorem bdT_hd (i : Nat) : BdT (hdO i) := fun p hp => by
  have : p = 0 ∨ p = 1 := by
    have : (hdO i).length = 2 := by unfold hdO; split <;> rfl
    omega
  match i with
  | 0 => rcases this with rfl | rfl <;> exact ⟨⟨by decide, by decide⟩, ⟨by decide, by decide⟩⟩
  | 1 => rcases this with rfl | rfl <;> exact ⟨⟨by decide, by decide⟩, ⟨by decide, by decide⟩⟩
  | i + 2 =>
    rw [show hdO (i + 2) = hdO 2 from rfl]
    rcases this with rfl | rfl <;> exact ⟨⟨by decide, by decide⟩, ⟨by decide, by decide⟩⟩
theorem hdO_len (i : Nat) : (hdO i).length = 2 := by unfold hdO; split <;> rfl
/-- The heads that are still to be taken. -/
def HdsW (wx : World) (Z i : Nat) : Prop := (∀ j, i ≤ j → j < 3 → OwnN wx Z (.slice (some ⟨Z + j, 0, none⟩) 2 2) (hdO j)) ∧ ∀ j, j < 3 → wx.cell? ⟨Z + 1 + 1 + 1, j, none⟩ = some (.slice (some ⟨Z + j, 0, none⟩) 2 2)
theorem HdsW.keep {wx wy : World} {Z i : Nat} (h : HdsW wx Z i) (hb : Below wx.heap.size wx wy) : HdsW wy Z i := ⟨fun j h1 h2 => (h.1 j h1 h2).grown hb, fun j h1 => keepF hb (h.2 j h1)⟩
theorem HdsW.app {wx wy : World} {Z i : Nat} (h : HdsW wx Z i) (hi : i < 3) (hg : wx.grownBy wy (some (Z + i))) : HdsW wy Z (i + 1) := by
  refine ⟨fun j h1 h2 => (h.1 j (by omega) h2).kept hg (.inr (fun e => ?_)), fun j h1 => (World.cell?_of_block (hg.block _ (ltF (h.2 j h1)) (fun e => ?_))).trans (h.2 j h1)⟩
  · have : some (Z + j) = some (Z + i) := e
    injection this with this
    omega
  · have e' : Z + 1 + 1 + 1 = Z + i := by injection e
    omega
theorem OwnN.two (w : World) (base : Nat) (n m : Nd) (hb : base ≤ w.heap.size) : OwnN (w.alloc (.cells #[.int .i64 n.op, .int .i64 n.a, .int .i64 n.b, .int .i64 n.num, .int .i64 n.den, .int .i64 m.op, .int .i64 m.a, .int .i64 m.b, .int .i64 m.num, .int .i64 m.den] 56)) base (.slice (some ⟨w.heap.size, 0, none⟩) 2 2) [n, m] :=
  World.ownsRow_lit w #[.int .i64 n.op, .int .i64 n.a, .int .i64 n.b, .int .i64 n.num, .int .i64 n.den, .int .i64 m.op, .int .i64 m.a, .int .i64 m.b, .int .i64 m.num, .int .i64 m.den] 2 hb (by unfold maxLen; omega) rfl
theorem hds_new (W : World) (Z : Nat) (hZ : W.heap.size = Z) : HdsW ((((W.alloc (.cells #[.int .i64 6, .int .i64 0, .int .i64 0, .int .i64 0, .int .i64 0, .int .i64 1, .int .i64 0, .int .i64 0, .int .i64 1, .int .i64 1] 56)).alloc (.cells #[.int .i64 3, .int .i64 0, .int .i64 0, .int .i64 0, .int .i64 0, .int .i64 3, .int .i64 0, .int .i64 0, .int .i64 0, .int .i64 0] 56)).alloc (.cells #[.int .i64 4, .int .i64 0, .int .i64 0, .int .i64 0, .int .i64 0, .int .i64 1, .int .i64 0, .int .i64 0, .int .i64 0, .int .i64 1] 56)).alloc (.cells #[.slice (some ⟨Z, 0, none⟩) 2 2, .slice (some ⟨Z + 1, 0, none⟩) 2 2, .slice (some ⟨Z + 1 + 1, 0, none⟩) 2 2] 22)) Z 0 := by
  subst hZ
  have o0 := OwnN.two W W.heap.size ⟨6, 0, 0, 0, 0⟩ ⟨1, 0, 0, 1, 1⟩ (Nat.le_refl _)
  have o1 := OwnN.two (W.alloc (.cells #[.int .i64 6, .int .i64 0, .int .i64 0, .int .i64 0, .int .i64 0, .int .i64 1, .int .i64 0, .int .i64 0, .int .i64 1, .int .i64 1] 56)) W.heap.size ⟨3, 0, 0, 0, 0⟩ ⟨3, 0, 0, 0, 0⟩ (by simp)
  have o2 := OwnN.two ((W.alloc (.cells #[.int .i64 6, .int .i64 0, .int .i64 0, .int .i64 0, .int .i64 0, .int .i64 1, .int .i64 0, .int .i64 0, .int .i64 1, .int .i64 1] 56)).alloc (.cells #[.int .i64 3, .int .i64 0, .int .i64 0, .int .i64 0, .int .i64 0, .int .i64 3, .int .i64 0, .int .i64 0, .int .i64 0, .int .i64 0] 56)) W.heap.size ⟨4, 0, 0, 0, 0⟩ ⟨1, 0, 0, 0, 1⟩ (by simp; omega)
  rw [World.size_alloc] at o1
  rw [World.size_alloc, World.size_alloc] at o2
  refine ⟨fun j h1 h2 => ?_, fun j h1 => ?_⟩
  · rcases (show j = 0 ∨ j = 1 ∨ j = 2 by omega) with rfl | rfl | rfl
    · exact ((o0.grown (newF _ _)).grown (newF _ _)).grown (newF _ _)
    · exact (o1.grown (newF _ _)).grown (newF _ _)
    · exact o2.grown (newF _ _)
  · rw [World.cell?_alloc_at _ _ _ _ (by simp)]
    rcases (show j = 0 ∨ j = 1 ∨ j = 2 by omega) with rfl | rfl | rfl <;> rfl
set_option maxRecDepth 100000 in
set_option maxHeartbeats 4000000 in
theorem vones_walk (w : World) (t : List Nd) (hbd : BdT t) (v0 : Value) (h0 : SlT w v0 t) (L : List Tol) (v1 : Value) (h1 : SlTol w v1 L) (hok : ∀ j, j < L.length → (L.getD j default).Ok) (day : Int) (hd : I64 day) (C : KndW w) :
    Calls Tryd.prog 6 #[v0, v1, .int .i64 day] w fun e w' => e = .returned (.bool true) ∧ Below w.heap.size w w' := by
  have HAw := Lib.hid (fun (w' : World) (hb : Below w.heap.size w w') => awake8_any w' (C.keep hb))
  have HS := Lib.hid (And.intro h0 h1)
  obtain ⟨a0, c0, rfl⟩ := h0.slice
  obtain ⟨a1, c1, rfl⟩ : ∃ a c, v1 = .slice a L.length c := by
    rcases h1 with ⟨rfl, a, c, rfl⟩ | ⟨_, b, o, c, rfl, _⟩
    · exact ⟨_, _, rfl⟩
    · exact ⟨_, _, rfl⟩
  by_cases l0 : 20 < t.length
  · have i0 : (20 : Int) < (t.length : Int) := by omega
    clear h0 h1 hok hbd C HS
    go_enter Tryd.func6, Tryd.ntmps6
    go_wp2_with fail
    refine (HAw.out _ (Below.refl _ _)).mono ?_
    rintro e w2 ⟨rfl, hb2⟩
    have HB2 := Lib.hid hb2
    clear hb2
    go_wp2_with fail
    go_ret
    exact ⟨rfl, HB2.out⟩
  have i0 : ¬ (20 : Int) < (t.length : Int) := by omega
  by_cases l1 : 60 < L.length
  · have i1 : (60 : Int) < (L.length : Int) := by omega
    clear h0 h1 hok hbd C HS
    go_enter Tryd.func6, Tryd.ntmps6
    go_wp2_with fail
    refine (HAw.out _ (Below.refl _ _)).mono ?_
    rintro e w2 ⟨rfl, hb2⟩
    have HB2 := Lib.hid hb2
    clear hb2
    go_wp2_with fail
    go_ret
    exact ⟨rfl, HB2.out⟩
  have i1 : ¬ (60 : Int) < (L.length : Int) := by omega
  have HWr := Lib.hid (lwrong_any t (by omega) hbd _ w h0 0)
  by_cases hw : wrN t 0 = 0
  · rw [hw] at HWr
    obtain ⟨w1, w2, w3⟩ := num_nm hw
    have hTm := (ofK_zero w1).2.1.tm.1
    rcases h0 with ⟨h, _⟩ | ⟨_, b, o, cap, hv, hc1, hc2, hN⟩
    · rw [h] at w2; exact absurd w2 (Nat.lt_irrefl _)
    injection hv with hv1 _ hv3
    subst hv1 hv3
    have HDp := Lib.hid (fun (w' : World) (hb : Below w.heap.size w w') => rdep_ok t (by omega) b o c0 hc1 0 hTm w' (hN.keep hb))
    by_cases hdp : dpA t 0 ≤ 10
    · have i2 : ¬ (10 : Int) < ((dpA t 0 : Nat) : Int) := by omega
      have HMd := Lib.hid (fun (w' : World) (hs : SlTol w' (.slice a1 L.length c1) L) => made_any w' _ L hs hok)
      have hrel := rel_made L L.length (Nat.le_refl _) hok
      rw [List.take_length] at hrel
      have HRel := Lib.hid (And.intro hrel.1 (plF_ok L (ok_mem hok)))
      have HEq := Lib.hid (ones_eq hbd (plF_ok L (ok_mem hok)) hw (by omega) hdp day)
      have HSf := Lib.hid (fun (op : Int) (hop : op = 7 ∨ op = 8) => self_eq (l := plF L) hw (by omega) hdp day hop)
      have HBd := Lib.hid hbd
      have HC := Lib.hid C
      have HL := Lib.hid (And.intro l0 l1)
      clear hrel h1 hok hbd C l0 l1 w1 w2 w3 hTm hN hdp hw hc1 hc2
      generalize dpA t 0 = dd at *
      go_enter Tryd.func6, Tryd.ntmps6
      go_wp2_with fail
      refine HWr.out.mono ?_
      rintro e w1 ⟨rfl, hb1⟩
      have HB1 := Lib.hid hb1
      clear hb1
      go_wp2_with fail
      refine (HDp.out _ HB1.out).mono ?_
      rintro e w2 ⟨rfl, hb2⟩
      have HB2 := Lib.hid (onF HB1.out hb2)
      clear hb2 HB1 HWr HDp
      go_wp2_with fail
      refine (HMd.out _ (HS.out.2.keep HB2.out)).mono ?_
      rintro e w3 ⟨B, bf, bc, rfl, hm, hB, hbf, hbc, hb3⟩
      have HM := Lib.hid hm
      have HB3 := Lib.hid (onF HB2.out hb3)
      have HVa := Lib.hid (vat_any t (by have := HL.out.1; omega) HBd.out _ w3 (HS.out.1.keep HB3.out) (HC.out.keep HB3.out) 0 day hm HRel.out.1 HRel.out.2)
      clear hm hB hbf hbc hb3 HMd HB2 i2
      go_wp2_with fail
      refine HVa.out.mono ?_
      rintro e w4 ⟨rfl, hb4⟩
      have HB4 := Lib.hid (onF HB3.out hb4)
      have HM4 := Lib.hid (HM.out.keep hb4)
      clear hb4 HVa HM HB3
      obtain ⟨E, hE⟩ : ∃ E, E = atE t (plF L) 0 day := ⟨_, rfl⟩
      obtain ⟨vb, hvb⟩ : ∃ vb, vb = vB (atV t (plF L) 0 day) := ⟨_, rfl⟩
      obtain ⟨vn, hvn⟩ : ∃ vn, vn = vN (atV t (plF L) 0 day) := ⟨_, rfl⟩
      obtain ⟨vd, hvd⟩ : ∃ vd, vd = vD (atV t (plF L) 0 day) := ⟨_, rfl⟩
      rw [← hE, ← hvb, ← hvn, ← hvd]
      have HV := Lib.hid (And.intro hE (And.intro hvb (And.intro hvn hvd)))
      clear hE hvb hvn hvd
      go_wp2_with fail
      have HZ : Hid (w.heap.size ≤ w4.heap.size ∧ B < w4.heap.size ∧ bf < w4.heap.size ∧ bc < w4.heap.size) := Lib.hid ⟨HB4.out.size, HM4.out.blt, HM4.out.hf.lt, HM4.out.hc.lt⟩
      have x0 : (w4.alloc (.cells #[.bool vb, .int .i64 vn, .int .i64 vd] 45)).cell? ⟨w4.heap.size, 0, none⟩ = some (.bool vb) := by rw [World.cell?_alloc_at _ _ _ _ rfl]; rfl
      have x1 : (w4.alloc (.cells #[.bool vb, .int .i64 vn, .int .i64 vd] 45)).cell? ⟨w4.heap.size, 1, none⟩ = some (.int .i64 vn) := by rw [World.cell?_alloc_at _ _ _ _ rfl]; rfl
      have x2 : (w4.alloc (.cells #[.bool vb, .int .i64 vn, .int .i64 vd] 45)).cell? ⟨w4.heap.size, 2, none⟩ = some (.int .i64 vd) := by rw [World.cell?_alloc_at _ _ _ _ rfl]; rfl
      have HO4 : Hid (OneS w (w4.alloc (.cells #[.bool vb, .int .i64 vn, .int .i64 vd] 45)) B bf bc L.length w4.heap.size (mkF L) (mkC L) vb vn vd) := Lib.hid ⟨HM4.out.keep (newF _ _), onF HB4.out (newF _ _), x0, x1, x2⟩
      have HH4 := Lib.hid (hds_new (w4.alloc (.cells #[.bool vb, .int .i64 vn, .int .i64 vd] 45)) (w4.heap.size + 1) (by simp))
      clear x0 x1 x2
      generalize hZ4 : w4.heap.size + 1 = Z at *
      have HZe := Lib.hid hZ4
      have hX4 : w4.heap.size < Z := by omega
      clear hZ4
      generalize hXX : w4.heap.size = X at *
      clear hXX HM4 HB4
      have HX := Lib.hid hX4
      clear hX4
      go_loopw [11] (fun vi wx => ∃ i : Nat, i ≤ 3 ∧ vi = .int .i64 (i : Nat) ∧ OneS w wx B bf bc L.length X (mkF L) (mkC L) vb vn vd ∧ HdsW wx Z i) (fun vi _ => 3 - (RowKit.intOf vi).toNat)
      case atStart => exact ⟨0, by omega, rfl, (((HO4.out.keep (newF _ _)).keep (newF _ _)).keep (newF _ _)).keep (newF _ _), HH4.out⟩
      case round =>
        obtain ⟨i, hi, rfl, hs, hh⟩ := hrel
        have HSr := Lib.hid hs
        have HHr := Lib.hid hh
        clear HO4 HH4
        by_cases hlt : i < 3
        · have p0 : (0 : Int) ≤ (i : Int) := by omega
          have p1 : (i : Int) < 3 := by omega
          have k0 := hh.2 i hlt
          have HOi := Lib.hid (hh.1 i (Nat.le_refl _) hlt)
          have HT := Lib.hid (HS.out.1.keep hs.bel)
          have HLt := Lib.hid hlt
          have hzw : Z ≤ wr.heap.size := by have := (World.ownsRow.lt HOi.out (Z + i) rfl).2; omega
          have HZw := Lib.hid hzw
          clear hs hh hlt hzw
          go_wp2_with (at_builtin; refine wpList_append_nodes rfl (.tmp 71) (.tmp 72) rfl Z _ (hdO i) rfl HOi.out _ t rfl HT.out (by rw [hdO_len]; have := HL.out.1; omega) HZw.out ?_; intro v5 w5 ho5 hg5 hat5; have HO5 := Lib.hid ho5; have HS5 := Lib.hid (HSr.out.app HOi.out (by have := HZ.out; have := HX.out; omega) (by have := HZ.out; have := HX.out; omega) (by have := HZ.out; have := HX.out; omega) (by have := HZ.out; have := HX.out; omega) HX.out hg5); have HH5 := Lib.hid (HHr.out.app HLt.out hg5); clear ho5 hg5 hat5)
          have HVt := Lib.hid (vat_any (hdO i ++ t) (by rw [List.length_append, hdO_len]; have := HL.out.1; omega) (bdT_app (bdT_hd i) HBd.out) v5 w5 HO5.out.sl (HC.out.keep HS5.out.bel) 0 day HS5.out.fac HRel.out.1 HRel.out.2)
          rw [(HEq.out i).1, (HEq.out i).2, ← HV.out.1, ← HV.out.2.1, ← HV.out.2.2.1, ← HV.out.2.2.2] at HVt
          clear HO5 HSr HHr HOi HT k0
          go_wp2_with fail
          refine HVt.out.mono ?_
          rintro e w6 ⟨rfl, hb6⟩
          have HS6 := Lib.hid ((HS5.out.keep hb6).keep (newF w6 (.cells #[.bool vb, .int .i64 vn, .int .i64 vd] 45)))
          have HH6 := Lib.hid ((HH5.out.keep hb6).keep (newF w6 (.cells #[.bool vb, .int .i64 vn, .int .i64 vd] 45)))
          have x0 := HS6.out.c0
          have x1 := HS6.out.c1
          have x2 := HS6.out.c2
          clear hb6 HS5 HH5 HVt
          go_wp2_with fail
          clear x0 x1 x2
          go_roundw
          case rel => exact ⟨i + 1, HLt.out, by go_num, HS6.out, HH6.out⟩
          case measure => have := HLt.out; simp [RowKit.intOf]; omega
        · have hie : i = 3 := by omega
          subst hie
          clear hs hh hlt hi HHr HX HZe
          go_wp2_with fail
          go_loopw [15] (fun vi wx => ∃ op : Int, 7 ≤ op ∧ op ≤ 9 ∧ vi = .int .i64 op ∧ OneS w wx B bf bc L.length X (mkF L) (mkC L) vb vn vd) (fun vi _ => 9 - (RowKit.intOf vi).toNat)
          case atStart => exact ⟨7, by decide, by decide, rfl, HSr.out⟩
          case round =>
            obtain ⟨op, ho7, ho9, rfl, hs⟩ := hrel
            have HSo := Lib.hid hs
            clear HSr
            by_cases hlt : op ≤ 8
            · have HT := Lib.hid (HS.out.1.keep hs.bel)
              have HW := Lib.hid (show w.heap.size ≤ wr.heap.size ∧ B < wr.heap.size ∧ bf < wr.heap.size ∧ bc < wr.heap.size ∧ X < wr.heap.size from ⟨hs.bel.size, hs.fac.blt, hs.fac.hf.lt, hs.fac.hc.lt, ltF hs.c0⟩)
              have HOp := Lib.hid (show op = 7 ∨ op = 8 by omega)
              have hwr : IntKind.i64.wrap (op + 1) = op + 1 := IntWalk.i64_in _ (by omega)
              have HRg := Lib.hid (And.intro ho7 hlt)
              have HO0 := Lib.hid (OwnN.one wr wr.heap.size ⟨op, 0, 0, 0, 0⟩ (Nat.le_refl _))
              have HS0 := Lib.hid (HSo.out.keep (newF wr (.cells #[.int .i64 op, .int .i64 0, .int .i64 0, .int .i64 0, .int .i64 0] 56)))
              have HT0 := Lib.hid (HT.out.keep (newF wr (.cells #[.int .i64 op, .int .i64 0, .int .i64 0, .int .i64 0, .int .i64 0] 56)))
              clear hs
              go_upto_region 21 with (at_builtin; refine wpList_append_nodes rfl (.tmp 96) (.tmp 97) rfl wr.heap.size _ [⟨op, 0, 0, 0, 0⟩] rfl HO0.out _ t rfl HT0.out (by have := HL.out.1; simp; omega) (by simp) ?_; intro v5 w5 ho5 hg5 hat5; have HO5 := Lib.hid ho5; have HS5 := Lib.hid (HS0.out.app HO0.out HW.out.1 HW.out.2.1 HW.out.2.2.1 HW.out.2.2.2.1 HW.out.2.2.2.2 hg5); have HZ5 := Lib.hid (Nat.le_trans (show wr.heap.size ≤ (wr.alloc (.cells #[.int .i64 op, .int .i64 0, .int .i64 0, .int .i64 0, .int .i64 0] 56)).heap.size by simp) hg5.size); have HT5 := Lib.hid (HS.out.1.keep HS5.out.bel); clear ho5 hg5 hat5)
              go_wp2_with (at_builtin; refine wpList_append_nodes rfl (.tmp 99) (.tmp 100) rfl wr.heap.size _ ([⟨op, 0, 0, 0, 0⟩] ++ t) rfl ?q1 _ t rfl ?q2 ?q3 ?q4 ?q5; (case q1 => exact HO5.out); (case q2 => exact HT5.out); (case q3 => (have := HL.out.1; simp; omega)); (case q4 => exact HZ5.out); (intro v6 w6 ho6 hg6 hat6); (have HO6 := Lib.hid ho6); (have HS6 := Lib.hid (HS5.out.app HO5.out HW.out.1 HW.out.2.1 HW.out.2.2.1 HW.out.2.2.2.1 HW.out.2.2.2.2 hg6)); clear ho6 hg6 hat6)
              have hb3 : BdT (([⟨op, 0, 0, 0, 0⟩] ++ t) ++ t) := bdT_app (bdT_app (bdT_one op) HBd.out) HBd.out
              have HVt := Lib.hid (vat_any (([⟨op, 0, 0, 0, 0⟩] ++ t) ++ t) (by have := HL.out.1; simp; omega) hb3 v6 w6 HO6.out.sl (HC.out.keep HS6.out.bel) 0 day HS6.out.fac HRel.out.1 HRel.out.2)
              rw [show (([(⟨op, 0, 0, 0, 0⟩ : Nd)] ++ t) ++ t) = ⟨op, 0, 0, 0, 0⟩ :: (t ++ t) by simp] at HVt
              rw [(HSf.out op HOp.out).1, (HSf.out op HOp.out).2, ← HV.out.1, ← HV.out.2.1, ← HV.out.2.2.1, ← HV.out.2.2.2] at HVt
              clear HO6 HO5 HS5 HO0 HS0 HT HT0 HT5 HZ5 hb3 HSo
              go_wp2_with fail
              refine HVt.out.mono ?_
              rintro e w7 ⟨rfl, hb7⟩
              have HS7 := Lib.hid ((HS6.out.keep hb7).keep (newF w7 (.cells #[.bool vb, .int .i64 vn, .int .i64 vd] 45)))
              have x0 := HS7.out.c0
              have x1 := HS7.out.c1
              have x2 := HS7.out.c2
              clear hb7 HS6 HVt
              go_wp2_with fail
              clear x0 x1 x2
              go_roundw
              case rel =>
                repeat apply Exists.intro
                refine ⟨⟨op + 1, ?_, ?_, rfl, HS7.out⟩, rfl⟩
                · have := HRg.out; omega
                · have := HRg.out; omega
              case measure => have := HRg.out; simp [RowKit.intOf]; omega
            · have hop : op = 9 := by omega
              subst hop
              clear hlt ho7 ho9
              have HBz := Lib.hid hs.bel
              clear hs HSo
              go_wp2_with fail
              refine (HAw.out _ HBz.out).mono ?_
              rintro e w7 ⟨rfl, hb7⟩
              have HB7 := Lib.hid (onF HBz.out hb7)
              clear hb7
              go_wp2_with fail
              go_ret
              exact ⟨rfl, HB7.out⟩
    · have i2 : (10 : Int) < ((dpA t 0 : Nat) : Int) := by omega
      clear h1 hok hbd C HS w1 w2 w3 hTm hN hdp hw
      generalize dpA t 0 = dd at *
      go_enter Tryd.func6, Tryd.ntmps6
      go_wp2_with fail
      refine HWr.out.mono ?_
      rintro e w1 ⟨rfl, hb1⟩
      have HB1 := Lib.hid hb1
      clear hb1
      go_wp2_with fail
      refine (HDp.out _ HB1.out).mono ?_
      rintro e w2 ⟨rfl, hb2⟩
      have HB2 := Lib.hid (onF HB1.out hb2)
      clear hb2
      go_wp2_with fail
      refine (HAw.out _ HB2.out).mono ?_
      rintro e w3 ⟨rfl, hb3⟩
      have HB3 := Lib.hid (onF HB2.out hb3)
      clear hb3
      go_wp2_with fail
      go_ret
      exact ⟨rfl, HB3.out⟩
  · have hw' : (wrN t 0 != 0) = true := bne_iff_ne.2 hw
    clear h0 h1 hok hbd C HS
    generalize wrN t 0 = k at *
    go_enter Tryd.func6, Tryd.ntmps6
    go_wp2_with fail
    refine HWr.out.mono ?_
    rintro e w1 ⟨rfl, hb1⟩
    have HB1 := Lib.hid hb1
    clear hb1
    go_wp2_with fail
    refine (HAw.out _ HB1.out).mono ?_
    rintro e w2 ⟨rfl, hb2⟩
    have HB2 := Lib.hid (onF HB1.out hb2)
    clear hb2
    go_wp2_with fail
    go_ret
    exact ⟨rfl, HB2.out⟩

end Go.Proofs.YtfkaliammmpcfaaDoor

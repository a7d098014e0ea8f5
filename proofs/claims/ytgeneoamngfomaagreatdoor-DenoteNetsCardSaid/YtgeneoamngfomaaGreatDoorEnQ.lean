/-
  Package denote: do: what it answers, op by op.
-/
import Derived.Test.YtgeneoamngfomaaGreatDoorEnP
import Derived.Deep.DeepCutAuto
namespace Go.Proofs.YtgeneoamngfomaaGreatDoor
open Go.RowKit Go.Lib Go.Maps
set_option linter.unusedVariables false
set_option linter.unusedSimpArgs false

set_option maxRecDepth 100000 in
set_option maxHeartbeats 4000000 in
theorem do_12 {w0 w : World} {R Z Q : Nat} {tv : Value} {tu : Int} {B bf bc nn : Nat} {Df Dc : DataW Unit} {lf lc : List Fct} {t : List Nd} (hc : CtxD w0 t tv B bf bc nn Df Dc lf lc) {qv fv wv : Value} {td : List Td} {fl : List Flw} {ws : List Wat} (h : RdR w0 w R Z Q tv tu B qv fv wv td fl ws)
    (hl : td.length ≤ 900) (hlf : fl.length ≤ 900) (hlw : ws.length ≤ 40000) (hto : tu ≤ 73048) (x : Td) (hx : CtA t x.p) (hop : opA t x.p = 12) (hq : fitsR x.q = true) (hd0 : 0 ≤ x.day) (hd1 : x.day ≤ 73048) :
    Calls Tryz.prog 51 #[.pointer (some ⟨R, 0, none⟩), .agg #[.int .i64 (x.p : Nat), .int .i64 x.day, .int .i64 x.q.num, .int .i64 ((x.q.den : Nat) : Int)], AcqV Z Q] w fun e w' => DoP w0 R Z Q tv tu B td fl ws e w' (stp t (envL lf lc) tu x) := by
  have hn0 : 0 < t.length := by have := hx.lt; omega
  obtain ⟨tb, to', tc, rfl, htc1, htc2, hT⟩ : ∃ b o cap, tv = .slice (some ⟨b, o, none⟩) t.length cap ∧ t.length ≤ cap ∧ cap ≤ 9223372036854775807 ∧ NdA w0 b o t := by
    rcases hc.sl with ⟨e, _⟩ | ⟨_, b, o, cap, h1, h2, h3, h4⟩
    · rw [e] at hn0; exact absurd hn0 (Nat.lt_irrefl _)
    · exact ⟨b, o, cap, h1, h2, h3, h4⟩
  have hb := newF w (.cells #[.int .i64 (x.p : Nat), .int .i64 x.day, .int .i64 x.q.num, .int .i64 ((x.q.den : Nat) : Int)] 128)
  have hx1 := h.keep hb
  have c0 : ∀ k v, (#[.int .i64 (x.p : Nat), .int .i64 x.day, .int .i64 x.q.num, .int .i64 ((x.q.den : Nat) : Int)] : Array Value)[k]? = some v → (w.alloc (.cells #[.int .i64 (x.p : Nat), .int .i64 x.day, .int .i64 x.q.num, .int .i64 ((x.q.den : Nat) : Int)] 128)).cell? ⟨w.heap.size, k, none⟩ = some v := fun k v hv => by rw [World.cell?_alloc_at _ _ _ _ rfl]; exact hv
  have x0 := c0 0 (.int .i64 (x.p : Nat)) rfl
  have x1 := c0 1 (.int .i64 x.day) rfl
  have x2 := c0 2 (.int .i64 x.q.num) rfl
  have x3 := c0 3 (.int .i64 ((x.q.den : Nat) : Int)) rfl
  have HXc := Lib.hid (And.intro x0 (And.intro x1 (And.intro x2 x3)))
  have HX := Lib.hid hx1
  have r0 := hx1.r0
  have HCx := Lib.hid hc
  have HXa := Lib.hid hx
  have HOp := Lib.hid hop
  have HQ := Lib.hid hq
  have HDy := Lib.hid (And.intro hd0 hd1)
  have HO := Lib.hid (fun (k : Nat) (hk : w.heap.size ≤ k) => (show k ≠ Q ∧ Off qv k ∧ k ≠ R ∧ Off wv k from ⟨by have := h.ltQ; omega, fun e => by have := (h.oq.lt k e).2; omega, by have := h.ltR; omega, fun e => by have := (h.ow.lt k e).2; omega⟩))
  have HWs : Hid (w.heap.size ≤ (w.alloc (.cells #[.int .i64 (x.p : Nat), .int .i64 x.day, .int .i64 x.q.num, .int .i64 ((x.q.den : Nat) : Int)] 128)).heap.size) := Lib.hid hb.size
  have p0 : (0 : Int) ≤ (x.p : Int) := by omega
  have p1 : (x.p : Int) < (t.length : Int) := by have := hx.lt; omega
  have HBl := Lib.hid (fun (w' : World) (hb' : Below (w.alloc (.cells #[.int .i64 (x.p : Nat), .int .i64 x.day, .int .i64 x.q.num, .int .i64 ((x.q.den : Nat) : Int)] 128)).heap.size (w.alloc (.cells #[.int .i64 (x.p : Nat), .int .i64 x.day, .int .i64 x.q.num, .int .i64 ((x.q.den : Nat) : Int)] 128)) w') => below_ok t (by have := hc.len; omega) tb to' tc x.p htc1 htc2 (ok_tm hc.ok hx.lt) w' (NdA.keep hT (hx1.keep hb').bel) (hc.kn.keep (hx1.keep hb').bel))
  rw [hop] at HBl
  obtain ⟨n0, n1, n2, n3, n4⟩ := NdA.keep hT hx1.bel x.p hx.lt
  have eop : (t.getD x.p default).op = 12 := hop
  have ea : (t.getD x.p default).a = aA t x.p := rfl
  have eb : (t.getD x.p default).b = bA t x.p := rfl
  rw [eop] at n0
  rw [ea] at n1
  rw [eb] at n2
  have HSt := Lib.hid (stp_and (t := t) (E := envL lf lc) (tu := tu) (x := x) hop)
  have HAc := Lib.hid (fun (k : Nat) (w' : World) (qv' : Value) (td' : List Td) (hl' : td'.length ≤ 1000) (h' : RdR w0 w' R Z Q (.slice (some ⟨tb, to', none⟩) t.length tc) tu B qv' fv wv td' fl ws) => acq_any h' hl' ⟨k, x.day, x.q⟩ (k : Nat) x.q.num ((x.q.den : Nat) : Int) rfl rfl rfl x.day rfl)
  generalize (t.getD x.p default).num = zn at *
  generalize (t.getD x.p default).den = zd at *
  clear h hb hx hop hq c0 hn0 hT eop ea eb hx1 hc hd0 hd1
  generalize aA t x.p = ka at *
  generalize bA t x.p = kb at *
  generalize ((x.q.den : Nat) : Int) = xd at *
  generalize x.q.num = xn at *
  unfold AcqV
  go_enter Tryz.func51, Tryz.ntmps51
  go_upto_region 1 with fail
  generalize w.alloc (.cells #[.int .i64 (x.p : Nat), .int .i64 x.day, .int .i64 xn, .int .i64 xd] 128) = w1 at *
  go_cut [7] (fun u wx => ∃ N, u = .pointer (some ⟨N, 0, none⟩) ∧ (wx.cell? ⟨N, 0, none⟩ = some (.int .i64 12) ∧ wx.cell? ⟨N, 1, none⟩ = some (.int .i64 ka) ∧ wx.cell? ⟨N, 2, none⟩ = some (.int .i64 kb)) ∧ w1.heap.size ≤ N ∧ Below w1.heap.size w1 wx)
  case first =>
    have hd : ∀ w', Below w1.heap.size w1 w' → (w'.cell? ⟨R, 0, none⟩ = some (.slice (some ⟨tb, to', none⟩) t.length tc) ∧ w'.cell? ⟨w.heap.size, 0, none⟩ = some (.int .i64 (x.p : Nat)) ∧ w'.cell? ⟨tb, to' + x.p * 5, none⟩ = some (.int .i64 12) ∧ w'.cell? ⟨tb, to' + x.p * 5 + 1, none⟩ = some (.int .i64 ka) ∧ w'.cell? ⟨tb, to' + x.p * 5 + 2, none⟩ = some (.int .i64 kb) ∧ w'.cell? ⟨tb, to' + x.p * 5 + 3, none⟩ = some (.int .i64 zn) ∧ w'.cell? ⟨tb, to' + x.p * 5 + 4, none⟩ = some (.int .i64 zd)) := fun w' hb => ⟨keepF hb r0, keepF hb x0, keepF hb n0, keepF hb n1, keepF hb n2, keepF hb n3, keepF hb n4⟩
    have ha : ∀ o, Below w1.heap.size w1 (w1.alloc o).drew := fun o => Below.drew (newF w1 o)
    have hs : ∀ (w' : World) (u0 u1 u2 u3 u4 : Value), Below w1.heap.size w1 w' → Below w1.heap.size w1 (((((w'.setCell ⟨w1.heap.size, 0, none⟩ u0).setCell ⟨w1.heap.size, 1, none⟩ u1).setCell ⟨w1.heap.size, 2, none⟩ u2).setCell ⟨w1.heap.size, 3, none⟩ u3).setCell ⟨w1.heap.size, 4, none⟩ u4) := fun w' u0 u1 u2 u3 u4 hb => Below.setCell (Below.setCell (Below.setCell (Below.setCell (Below.setCell hb (Nat.le_refl _) _) (Nat.le_refl _) _) (Nat.le_refl _) _) (Nat.le_refl _) _) (Nat.le_refl _) _
    clear r0 x0 x1 x2 x3 n0 n1 n2 n3 n4
    have hd0 := hd _ (Below.drew (Below.refl _ _))
    go_region_held3 (fun w' => w'.cell? ⟨R, 0, none⟩ = some (.slice (some ⟨tb, to', none⟩) t.length tc) ∧ w'.cell? ⟨w.heap.size, 0, none⟩ = some (.int .i64 (x.p : Nat)) ∧ w'.cell? ⟨tb, to' + x.p * 5, none⟩ = some (.int .i64 12) ∧ w'.cell? ⟨tb, to' + x.p * 5 + 1, none⟩ = some (.int .i64 ka) ∧ w'.cell? ⟨tb, to' + x.p * 5 + 2, none⟩ = some (.int .i64 kb) ∧ w'.cell? ⟨tb, to' + x.p * 5 + 3, none⟩ = some (.int .i64 zn) ∧ w'.cell? ⟨tb, to' + x.p * 5 + 4, none⟩ = some (.int .i64 zd))
      (first | (with_reducible exact hd0) | (with_reducible exact hd _ (ha _)) | exact hd _ (Below.drew (newF w1 _)) | exact hd _ (onF (Below.drew (Below.refl _ _)) (newF _ _)) | exact hd _ (hs _ _ _ _ _ _ (ha _)) | exact hd _ (hs _ _ _ _ _ _ (onF (Below.drew (Below.refl _ _)) (newF _ _))))
      (fail)
    all_goals (try go_wp2)
    all_goals go_meet
    all_goals first
      | exact ⟨_, rfl, ⟨cellN _ _ _ _ _ rfl, cellN _ _ _ _ _ rfl, cellN _ _ _ _ _ rfl⟩, Nat.le_refl _, by first | exact ha _ | exact onF (Below.drew (Below.refl _ _)) (newF _ _)⟩
  case rest =>
  obtain ⟨N, rfl, ⟨m0, m1, m2⟩, hN, hbn⟩ := hcut
  have HX2 := Lib.hid (HX.out.keep hbn)
  have r0 : wc.drew.cell? ⟨R, 0, none⟩ = some (.slice (some ⟨tb, to', none⟩) t.length tc) := keepF (Below.drew hbn) r0
  have x0 : wc.drew.cell? ⟨w.heap.size, 0, none⟩ = some (.int .i64 (x.p : Nat)) := keepF (Below.drew hbn) x0
  have HB2 := Lib.hid (HBl.out wc.drew (Below.drew hbn))
  have HW2 := Lib.hid (And.intro hbn hbn.size)
  have HM := Lib.hid (And.intro m0 (And.intro m1 m2))
  have HNw : Hid (w.heap.size ≤ N) := Lib.hid (Nat.le_trans HWs.out hN)
  clear x1 x2 x3 n0 n1 n2 n3 n4 m0 m1 m2 hbn HBl
  go_upto_region 2 with fail
  go_region_held3 (fun w' => w'.cell? ⟨R, 0, none⟩ = some (.slice (some ⟨tb, to', none⟩) t.length tc) ∧ w'.cell? ⟨w.heap.size, 0, none⟩ = some (.int .i64 (x.p : Nat)))
    (first | (with_reducible exact ⟨r0, x0⟩))
    ((go_at_call 79; (with_reducible refine HB2.out.mono ?_); rintro e w3 ⟨bv, rfl, hbo, hb3⟩; have HBo := Lib.hid hbo; have HB3 : Hid (Below wc.heap.size wc w3) := Lib.hid (onF (Below.drew (Below.refl _ _)) hb3); have r0 := keepF hb3 r0; have x0 := keepF hb3 x0; obtain ⟨ba, bl, bcp, rfl⟩ : ∃ a l c, bv = .slice a l c := (by rcases hbo.reads with ⟨e, _⟩ | ⟨g', c', e, _⟩ <;> exact ⟨_, _, _, e⟩); clear hbo hb3))
  have HX3 := Lib.hid (HX2.out.keep HB3.out)
  have HXc3 := Lib.hid (And.intro (keepF HB3.out (keepF HW2.out.1 HXc.out.1)) (And.intro (keepF HB3.out (keepF HW2.out.1 HXc.out.2.1)) (And.intro (keepF HB3.out (keepF HW2.out.1 HXc.out.2.2.1)) (keepF HB3.out (keepF HW2.out.1 HXc.out.2.2.2)))))
  have m0 := keepF HB3.out HM.out.1
  have m1 := keepF HB3.out HM.out.2.1
  have m2 := keepF HB3.out HM.out.2.2
  obtain ⟨x0, x1, x2, x3⟩ := HXc3.out
  have HW3 : Hid (w.heap.size ≤ wc.drew.heap.size) := Lib.hid (by
    have h1 := HW2.out.2
    have h2 : w.heap.size ≤ w1.heap.size := HWs.out
    exact Nat.le_trans h2 h1)
  clear r0 HX2 HB2 HM
  have hbo := HBo.out
  rw [show cnO 12 = 2 from by decide, pl_kids] at hbo
  obtain ⟨g, gcap, hv, hcap, hg⟩ := bls_own (R := R) (Q := Q) (qv := qv) (wv := wv) hbo (by simp) (fun k hk => HO.out k (Nat.le_trans HW3.out hk))
  have hg : BlS w3 R Q qv wv g [kid t x.p 0, kid t x.p 1] := hg
  have hcap : 2 ≤ gcap := hcap
  have hv : Value.slice ba bl bcp = .slice (some ⟨g, 0, none⟩) 2 gcap := hv
  injection hv with e1 e2 e3
  subst e1 e2 e3
  have HG := Lib.hid hg
  have HCp := Lib.hid hcap
  clear hbo hg hcap HBo
  have HIn := Lib.hid (fun (w' : World) (i : Int) => instead_any w' (x.p : Nat) x.day xn xd i)
  generalize kid t x.p 0 = k0 at *
  generalize kid t x.p 1 = k1 at *
  have HAl : Hid (acqL tu ⟨k0, x.day, x.q⟩ ++ acqL tu ⟨k1, x.day, x.q⟩ = [(⟨k0, x.day, x.q⟩ : Td), ⟨k1, x.day, x.q⟩].flatMap (acqL tu) ∧ (acqL tu ⟨k0, x.day, x.q⟩).length ≤ 1) := Lib.hid ⟨by simp, by unfold acqL; split <;> simp⟩
  have HRA_g : Hid (w3.cell? ⟨g, 0, none⟩ = some (.int .i64 (k0 : Nat))) := Lib.hid (HG.out.c 0 (by simp))
  have HRA_a := Lib.hid (fun w' (hb : Below w3.heap.size w3 w') => HAc.out k0 w' qv td (by omega) (HX3.out.keep hb))
  have HRA_q : Hid (Off qv g ∧ Off qv w.heap.size) := Lib.hid ⟨HG.out.oq, (HO.out _ (Nat.le_refl _)).2.1⟩
  have g2' : w3.drew.cell? ⟨g, 0, none⟩ = some (.int .i64 (k0 : Nat)) := HRA_g.out
  have x0 : w3.drew.cell? ⟨w.heap.size, 0, none⟩ = some (.int .i64 (x.p : Nat)) := x0
  have x1 : w3.drew.cell? ⟨w.heap.size, 1, none⟩ = some (.int .i64 x.day) := x1
  have x2 : w3.drew.cell? ⟨w.heap.size, 2, none⟩ = some (.int .i64 xn) := x2
  have x3 : w3.drew.cell? ⟨w.heap.size, 3, none⟩ = some (.int .i64 xd) := x3
  go_upto_region 9 with fail
  go_region_held3 (fun w' => w'.cell? ⟨g, 0, none⟩ = some (.int .i64 (k0 : Nat)) ∧ w'.cell? ⟨w.heap.size, 0, none⟩ = some (.int .i64 (x.p : Nat)) ∧ w'.cell? ⟨w.heap.size, 1, none⟩ = some (.int .i64 x.day) ∧ w'.cell? ⟨w.heap.size, 2, none⟩ = some (.int .i64 xn) ∧ w'.cell? ⟨w.heap.size, 3, none⟩ = some (.int .i64 xd))
    (first | (with_reducible exact ⟨g2', x0, x1, x2, x3⟩))
    (first
      | (go_at_call 82; (with_reducible refine (HIn.out _ _).mono ?_); rintro e w5 ⟨rfl, hb5⟩; have HA5 := Lib.hid (HRA_a.out w5 (onF (Below.drew (Below.refl _ _)) hb5)); have HB5 : Hid (Below w3.heap.size w3 w5) := Lib.hid (onF (Below.drew (Below.refl _ _)) hb5); have g2' := keepF hb5 g2'; have x0 := keepF hb5 x0; have x1 := keepF hb5 x1; have x2 := keepF hb5 x2; have x3 := keepF hb5 x3; clear hb5)
      | (go_at_call 50; refine (HA5.out).mono ?_; rintro e w6 ⟨rfl, qvw6, hr, hlet, hoff⟩; have HRw6 := Lib.hid hr; have HLw6 := Lib.hid hlet; have HQw6 : Hid (Off qvw6 g ∧ Off qvw6 w.heap.size) := Lib.hid ⟨hoff g (ltF g2') HRA_q.out.1, hoff _ (ltF x0) HRA_q.out.2⟩; have g2' := hlet.cell g2' HG.out.nQ HRA_q.out.1; have x0 := hlet.cell x0 (HO.out _ (Nat.le_refl _)).1 HRA_q.out.2; have x1 := hlet.cell x1 (HO.out _ (Nat.le_refl _)).1 HRA_q.out.2; have x2 := hlet.cell x2 (HO.out _ (Nat.le_refl _)).1 HRA_q.out.2; have x3 := hlet.cell x3 (HO.out _ (Nat.le_refl _)).1 HRA_q.out.2; clear hr hlet hoff))
  clear HRA_a HA5
  have HRB_g : Hid (w6.cell? ⟨g, 1, none⟩ = some (.int .i64 (k1 : Nat))) := Lib.hid (HLw6.out.cell (keepF HB5.out (HG.out.c 1 (by simp))) HG.out.nQ HG.out.oq)
  have HRB_a := Lib.hid (fun w' (hb : Below w6.heap.size w6 w') => HAc.out k1 w' qvw6 _ (by rw [List.length_append]; have := HAl.out.2; omega) (HRw6.out.keep hb))
  have HRB_q := HQw6
  have g2' : w6.drew.cell? ⟨g, 1, none⟩ = some (.int .i64 (k1 : Nat)) := HRB_g.out
  have x0 : w6.drew.cell? ⟨w.heap.size, 0, none⟩ = some (.int .i64 (x.p : Nat)) := x0
  have x1 : w6.drew.cell? ⟨w.heap.size, 1, none⟩ = some (.int .i64 x.day) := x1
  have x2 : w6.drew.cell? ⟨w.heap.size, 2, none⟩ = some (.int .i64 xn) := x2
  have x3 : w6.drew.cell? ⟨w.heap.size, 3, none⟩ = some (.int .i64 xd) := x3
  go_upto_region 10 with fail
  go_region_held3 (fun w' => w'.cell? ⟨g, 1, none⟩ = some (.int .i64 (k1 : Nat)) ∧ w'.cell? ⟨w.heap.size, 0, none⟩ = some (.int .i64 (x.p : Nat)) ∧ w'.cell? ⟨w.heap.size, 1, none⟩ = some (.int .i64 x.day) ∧ w'.cell? ⟨w.heap.size, 2, none⟩ = some (.int .i64 xn) ∧ w'.cell? ⟨w.heap.size, 3, none⟩ = some (.int .i64 xd))
    (first | (with_reducible exact ⟨g2', x0, x1, x2, x3⟩))
    (first
      | (go_at_call 82; (with_reducible refine (HIn.out _ _).mono ?_); rintro e w5 ⟨rfl, hb5⟩; have HA5 := Lib.hid (HRB_a.out w5 (onF (Below.drew (Below.refl _ _)) hb5)); have HB5 : Hid (Below w6.heap.size w6 w5) := Lib.hid (onF (Below.drew (Below.refl _ _)) hb5); have g2' := keepF hb5 g2'; have x0 := keepF hb5 x0; have x1 := keepF hb5 x1; have x2 := keepF hb5 x2; have x3 := keepF hb5 x3; clear hb5)
      | (go_at_call 50; refine (HA5.out).mono ?_; rintro e w9 ⟨rfl, qvw9, hr, hlet, hoff⟩; have HRw9 := Lib.hid hr; have HLw9 := Lib.hid hlet; have HQw9 : Hid (Off qvw9 g ∧ Off qvw9 w.heap.size) := Lib.hid ⟨hoff g (ltF g2') HRB_q.out.1, hoff _ (ltF x0) HRB_q.out.2⟩; have g2' := hlet.cell g2' HG.out.nQ HRB_q.out.1; have x0 := hlet.cell x0 (HO.out _ (Nat.le_refl _)).1 HRB_q.out.2; have x1 := hlet.cell x1 (HO.out _ (Nat.le_refl _)).1 HRB_q.out.2; have x2 := hlet.cell x2 (HO.out _ (Nat.le_refl _)).1 HRB_q.out.2; have x3 := hlet.cell x3 (HO.out _ (Nat.le_refl _)).1 HRB_q.out.2; clear hr hlet hoff))
  go_wp2_with fail
  go_ret
  rw [HSt.out]
  exact ⟨rfl, _, _, _, by
    have h := HRw9.out
    rw [List.append_assoc, HAl.out.1] at h
    simpa using h⟩
set_option maxRecDepth 100000 in
set_option maxHeartbeats 4000000 in
theorem do_14 {w0 w : World} {R Z Q : Nat} {tv : Value} {tu : Int} {B bf bc nn : Nat} {Df Dc : DataW Unit} {lf lc : List Fct} {t : List Nd} (hc : CtxD w0 t tv B bf bc nn Df Dc lf lc) {qv fv wv : Value} {td : List Td} {fl : List Flw} {ws : List Wat} (h : RdR w0 w R Z Q tv tu B qv fv wv td fl ws)
    (hl : td.length ≤ 900) (hlf : fl.length ≤ 900) (hlw : ws.length ≤ 40000) (hto : tu ≤ 73048) (x : Td) (hx : CtA t x.p) (hop : opA t x.p = 14) (hq : fitsR x.q = true) (hd0 : 0 ≤ x.day) (hd1 : x.day ≤ 73048) :
    Calls Tryz.prog 51 #[.pointer (some ⟨R, 0, none⟩), .agg #[.int .i64 (x.p : Nat), .int .i64 x.day, .int .i64 x.q.num, .int .i64 ((x.q.den : Nat) : Int)], AcqV Z Q] w fun e w' => DoP w0 R Z Q tv tu B td fl ws e w' (stp t (envL lf lc) tu x) := by
  have hn0 : 0 < t.length := by have := hx.lt; omega
  obtain ⟨tb, to', tc, rfl, htc1, htc2, hT⟩ : ∃ b o cap, tv = .slice (some ⟨b, o, none⟩) t.length cap ∧ t.length ≤ cap ∧ cap ≤ 9223372036854775807 ∧ NdA w0 b o t := by
    rcases hc.sl with ⟨e, _⟩ | ⟨_, b, o, cap, h1, h2, h3, h4⟩
    · rw [e] at hn0; exact absurd hn0 (Nat.lt_irrefl _)
    · exact ⟨b, o, cap, h1, h2, h3, h4⟩
  have hb := newF w (.cells #[.int .i64 (x.p : Nat), .int .i64 x.day, .int .i64 x.q.num, .int .i64 ((x.q.den : Nat) : Int)] 128)
  have hx1 := h.keep hb
  have c0 : ∀ k v, (#[.int .i64 (x.p : Nat), .int .i64 x.day, .int .i64 x.q.num, .int .i64 ((x.q.den : Nat) : Int)] : Array Value)[k]? = some v → (w.alloc (.cells #[.int .i64 (x.p : Nat), .int .i64 x.day, .int .i64 x.q.num, .int .i64 ((x.q.den : Nat) : Int)] 128)).cell? ⟨w.heap.size, k, none⟩ = some v := fun k v hv => by rw [World.cell?_alloc_at _ _ _ _ rfl]; exact hv
  have x0 := c0 0 (.int .i64 (x.p : Nat)) rfl
  have x1 := c0 1 (.int .i64 x.day) rfl
  have x2 := c0 2 (.int .i64 x.q.num) rfl
  have x3 := c0 3 (.int .i64 ((x.q.den : Nat) : Int)) rfl
  have HXc := Lib.hid (And.intro x0 (And.intro x1 (And.intro x2 x3)))
  have HX := Lib.hid hx1
  have r0 := hx1.r0
  have HCx := Lib.hid hc
  have HXa := Lib.hid hx
  have HOp := Lib.hid hop
  have HQ := Lib.hid hq
  have HDy := Lib.hid (And.intro hd0 hd1)
  have HO := Lib.hid (fun (k : Nat) (hk : w.heap.size ≤ k) => (show k ≠ Q ∧ Off qv k ∧ k ≠ R ∧ Off wv k from ⟨by have := h.ltQ; omega, fun e => by have := (h.oq.lt k e).2; omega, by have := h.ltR; omega, fun e => by have := (h.ow.lt k e).2; omega⟩))
  have HWs : Hid (w.heap.size ≤ (w.alloc (.cells #[.int .i64 (x.p : Nat), .int .i64 x.day, .int .i64 x.q.num, .int .i64 ((x.q.den : Nat) : Int)] 128)).heap.size) := Lib.hid hb.size
  have p0 : (0 : Int) ≤ (x.p : Int) := by omega
  have p1 : (x.p : Int) < (t.length : Int) := by have := hx.lt; omega
  have HBl := Lib.hid (fun (w' : World) (hb' : Below (w.alloc (.cells #[.int .i64 (x.p : Nat), .int .i64 x.day, .int .i64 x.q.num, .int .i64 ((x.q.den : Nat) : Int)] 128)).heap.size (w.alloc (.cells #[.int .i64 (x.p : Nat), .int .i64 x.day, .int .i64 x.q.num, .int .i64 ((x.q.den : Nat) : Int)] 128)) w') => below_ok t (by have := hc.len; omega) tb to' tc x.p htc1 htc2 (ok_tm hc.ok hx.lt) w' (NdA.keep hT (hx1.keep hb').bel) (hc.kn.keep (hx1.keep hb').bel))
  rw [hop] at HBl
  obtain ⟨n0, n1, n2, n3, n4⟩ := NdA.keep hT hx1.bel x.p hx.lt
  have eop : (t.getD x.p default).op = 14 := hop
  have ea : (t.getD x.p default).a = aA t x.p := rfl
  have eb : (t.getD x.p default).b = bA t x.p := rfl
  rw [eop] at n0
  rw [ea] at n1
  rw [eb] at n2
  have HSt := Lib.hid (stp_when (t := t) (E := envL lf lc) (tu := tu) (x := x) hop)
  have HAc := Lib.hid (fun (k : Nat) (w' : World) (h' : RdR w0 w' R Z Q (.slice (some ⟨tb, to', none⟩) t.length tc) tu B qv fv wv td fl ws) => acq_any h' (by omega) ⟨k, aA t x.p, x.q⟩ (k : Nat) x.q.num ((x.q.den : Nat) : Int) rfl rfl rfl (aA t x.p) rfl)
  generalize (t.getD x.p default).num = zn at *
  generalize (t.getD x.p default).den = zd at *
  clear h hb hx hop hq c0 hn0 hT eop ea eb hx1 hc hd0 hd1
  generalize aA t x.p = ka at *
  generalize bA t x.p = kb at *
  generalize ((x.q.den : Nat) : Int) = xd at *
  generalize x.q.num = xn at *
  unfold AcqV
  go_enter Tryz.func51, Tryz.ntmps51
  go_upto_region 1 with fail
  generalize w.alloc (.cells #[.int .i64 (x.p : Nat), .int .i64 x.day, .int .i64 xn, .int .i64 xd] 128) = w1 at *
  go_cut [7] (fun u wx => ∃ N, u = .pointer (some ⟨N, 0, none⟩) ∧ (wx.cell? ⟨N, 0, none⟩ = some (.int .i64 14) ∧ wx.cell? ⟨N, 1, none⟩ = some (.int .i64 ka) ∧ wx.cell? ⟨N, 2, none⟩ = some (.int .i64 kb)) ∧ w1.heap.size ≤ N ∧ Below w1.heap.size w1 wx)
  case first =>
    have hd : ∀ w', Below w1.heap.size w1 w' → (w'.cell? ⟨R, 0, none⟩ = some (.slice (some ⟨tb, to', none⟩) t.length tc) ∧ w'.cell? ⟨w.heap.size, 0, none⟩ = some (.int .i64 (x.p : Nat)) ∧ w'.cell? ⟨tb, to' + x.p * 5, none⟩ = some (.int .i64 14) ∧ w'.cell? ⟨tb, to' + x.p * 5 + 1, none⟩ = some (.int .i64 ka) ∧ w'.cell? ⟨tb, to' + x.p * 5 + 2, none⟩ = some (.int .i64 kb) ∧ w'.cell? ⟨tb, to' + x.p * 5 + 3, none⟩ = some (.int .i64 zn) ∧ w'.cell? ⟨tb, to' + x.p * 5 + 4, none⟩ = some (.int .i64 zd)) := fun w' hb => ⟨keepF hb r0, keepF hb x0, keepF hb n0, keepF hb n1, keepF hb n2, keepF hb n3, keepF hb n4⟩
    have ha : ∀ o, Below w1.heap.size w1 (w1.alloc o).drew := fun o => Below.drew (newF w1 o)
    have hs : ∀ (w' : World) (u0 u1 u2 u3 u4 : Value), Below w1.heap.size w1 w' → Below w1.heap.size w1 (((((w'.setCell ⟨w1.heap.size, 0, none⟩ u0).setCell ⟨w1.heap.size, 1, none⟩ u1).setCell ⟨w1.heap.size, 2, none⟩ u2).setCell ⟨w1.heap.size, 3, none⟩ u3).setCell ⟨w1.heap.size, 4, none⟩ u4) := fun w' u0 u1 u2 u3 u4 hb => Below.setCell (Below.setCell (Below.setCell (Below.setCell (Below.setCell hb (Nat.le_refl _) _) (Nat.le_refl _) _) (Nat.le_refl _) _) (Nat.le_refl _) _) (Nat.le_refl _) _
    clear r0 x0 x1 x2 x3 n0 n1 n2 n3 n4
    have hd0 := hd _ (Below.drew (Below.refl _ _))
    go_region_held3 (fun w' => w'.cell? ⟨R, 0, none⟩ = some (.slice (some ⟨tb, to', none⟩) t.length tc) ∧ w'.cell? ⟨w.heap.size, 0, none⟩ = some (.int .i64 (x.p : Nat)) ∧ w'.cell? ⟨tb, to' + x.p * 5, none⟩ = some (.int .i64 14) ∧ w'.cell? ⟨tb, to' + x.p * 5 + 1, none⟩ = some (.int .i64 ka) ∧ w'.cell? ⟨tb, to' + x.p * 5 + 2, none⟩ = some (.int .i64 kb) ∧ w'.cell? ⟨tb, to' + x.p * 5 + 3, none⟩ = some (.int .i64 zn) ∧ w'.cell? ⟨tb, to' + x.p * 5 + 4, none⟩ = some (.int .i64 zd))
      (first | (with_reducible exact hd0) | (with_reducible exact hd _ (ha _)) | exact hd _ (Below.drew (newF w1 _)) | exact hd _ (onF (Below.drew (Below.refl _ _)) (newF _ _)) | exact hd _ (hs _ _ _ _ _ _ (ha _)) | exact hd _ (hs _ _ _ _ _ _ (onF (Below.drew (Below.refl _ _)) (newF _ _))))
      (fail)
    all_goals (try go_wp2)
    all_goals go_meet
    all_goals first
      | exact ⟨_, rfl, ⟨cellN _ _ _ _ _ rfl, cellN _ _ _ _ _ rfl, cellN _ _ _ _ _ rfl⟩, Nat.le_refl _, by first | exact ha _ | exact onF (Below.drew (Below.refl _ _)) (newF _ _)⟩
  case rest =>
  obtain ⟨N, rfl, ⟨m0, m1, m2⟩, hN, hbn⟩ := hcut
  have HX2 := Lib.hid (HX.out.keep hbn)
  have r0 : wc.drew.cell? ⟨R, 0, none⟩ = some (.slice (some ⟨tb, to', none⟩) t.length tc) := keepF (Below.drew hbn) r0
  have x0 : wc.drew.cell? ⟨w.heap.size, 0, none⟩ = some (.int .i64 (x.p : Nat)) := keepF (Below.drew hbn) x0
  have HB2 := Lib.hid (HBl.out wc.drew (Below.drew hbn))
  have HW2 := Lib.hid (And.intro hbn hbn.size)
  have HM := Lib.hid (And.intro m0 (And.intro m1 m2))
  have HNw : Hid (w.heap.size ≤ N) := Lib.hid (Nat.le_trans HWs.out hN)
  clear x1 x2 x3 n0 n1 n2 n3 n4 m0 m1 m2 hbn HBl
  go_upto_region 2 with fail
  go_region_held3 (fun w' => w'.cell? ⟨R, 0, none⟩ = some (.slice (some ⟨tb, to', none⟩) t.length tc) ∧ w'.cell? ⟨w.heap.size, 0, none⟩ = some (.int .i64 (x.p : Nat)))
    (first | (with_reducible exact ⟨r0, x0⟩))
    ((go_at_call 79; (with_reducible refine HB2.out.mono ?_); rintro e w3 ⟨bv, rfl, hbo, hb3⟩; have HBo := Lib.hid hbo; have HB3 : Hid (Below wc.heap.size wc w3) := Lib.hid (onF (Below.drew (Below.refl _ _)) hb3); have r0 := keepF hb3 r0; have x0 := keepF hb3 x0; obtain ⟨ba, bl, bcp, rfl⟩ : ∃ a l c, bv = .slice a l c := (by rcases hbo.reads with ⟨e, _⟩ | ⟨g', c', e, _⟩ <;> exact ⟨_, _, _, e⟩); clear hbo hb3))
  have HX3 := Lib.hid (HX2.out.keep HB3.out)
  have HXc3 := Lib.hid (And.intro (keepF HB3.out (keepF HW2.out.1 HXc.out.1)) (And.intro (keepF HB3.out (keepF HW2.out.1 HXc.out.2.1)) (And.intro (keepF HB3.out (keepF HW2.out.1 HXc.out.2.2.1)) (keepF HB3.out (keepF HW2.out.1 HXc.out.2.2.2)))))
  have m0 := keepF HB3.out HM.out.1
  have m1 := keepF HB3.out HM.out.2.1
  have m2 := keepF HB3.out HM.out.2.2
  obtain ⟨x0, x1, x2, x3⟩ := HXc3.out
  have HW3 : Hid (w.heap.size ≤ wc.drew.heap.size) := Lib.hid (by
    have h1 := HW2.out.2
    have h2 : w.heap.size ≤ w1.heap.size := HWs.out
    exact Nat.le_trans h2 h1)
  clear r0 HX2 HB2 HM
  have hbo := HBo.out
  rw [show cnO 14 = 1 from by decide, pl_kids] at hbo
  obtain ⟨g, gcap, hv, hcap, hg⟩ := bls_own (R := R) (Q := Q) (qv := qv) (wv := wv) hbo (by simp) (fun k hk => HO.out k (Nat.le_trans HW3.out hk))
  have hg : BlS w3 R Q qv wv g [kid t x.p 0] := hg
  have hcap : 1 ≤ gcap := hcap
  have hv : Value.slice ba bl bcp = .slice (some ⟨g, 0, none⟩) 1 gcap := hv
  injection hv with e1 e2 e3
  subst e1 e2 e3
  have HG := Lib.hid hg
  have HCp := Lib.hid hcap
  clear hbo hg hcap HBo
  generalize kid t x.p 0 = k0 at *
  by_cases hge : x.day ≤ ka
  · have HSw : Hid (∃ ts, stp t (envL lf lc) tu x = some (ts, [], []) ∧ ts.flatMap (acqL tu) = acqL tu ⟨k0, ka, x.q⟩) := Lib.hid ⟨_, by rw [HSt.out, if_pos hge], by simp⟩
    have HA3 := Lib.hid (HAc.out k0 w3.drew (HX3.out.keep (Below.drew (Below.refl _ _))))
    clear HAc
    generalize acqL tu ⟨k0, ka, x.q⟩ = al at *
    go_upto_region 15 with fail
    have g0 : w3.drew.cell? ⟨g, 0, none⟩ = some (.int .i64 (k0 : Nat)) := HG.out.c 0 (by simp)
    have m1 : w3.drew.cell? ⟨N, 1, none⟩ = some (.int .i64 ka) := m1
    have x2 : w3.drew.cell? ⟨w.heap.size, 2, none⟩ = some (.int .i64 xn) := x2
    have x3 : w3.drew.cell? ⟨w.heap.size, 3, none⟩ = some (.int .i64 xd) := x3
    go_region_held3 (fun w' => w'.cell? ⟨g, 0, none⟩ = some (.int .i64 (k0 : Nat)) ∧ w'.cell? ⟨N, 1, none⟩ = some (.int .i64 ka) ∧ w'.cell? ⟨w.heap.size, 2, none⟩ = some (.int .i64 xn) ∧ w'.cell? ⟨w.heap.size, 3, none⟩ = some (.int .i64 xd))
      (first | (with_reducible exact ⟨g0, m1, x2, x3⟩))
      ((go_at_call 50; refine (HA3.out).mono ?_; rintro e w6 ⟨rfl, qv', hr, hlet, _⟩; have HR5 := Lib.hid hr; have g0 := hlet.cell g0 HG.out.nQ HG.out.oq; have m1 := hlet.cell m1 (HO.out _ HNw.out).1 (HO.out _ HNw.out).2.1; have x2 := hlet.cell x2 (HO.out _ (Nat.le_refl _)).1 (HO.out _ (Nat.le_refl _)).2.1; have x3 := hlet.cell x3 (HO.out _ (Nat.le_refl _)).1 (HO.out _ (Nat.le_refl _)).2.1; clear hr hlet))
    go_wp2_with fail
    go_ret
    obtain ⟨ts, h1, h2⟩ := HSw.out
    rw [h1]
    exact ⟨rfl, by rw [h2, List.append_nil, List.append_nil]; exact ⟨_, _, _, HR5.out⟩⟩
  · have HSw : Hid (stp t (envL lf lc) tu x = some ([], [], [])) := Lib.hid (by rw [HSt.out, if_neg hge])
    clear HAc
    go_wp2_with fail
    go_ret
    rw [HSw.out]
    exact ⟨rfl, DnM.nil ⟨_, _, _, HX3.out⟩⟩
set_option maxRecDepth 100000 in
set_option maxHeartbeats 4000000 in
theorem do_16 {w0 w : World} {R Z Q : Nat} {tv : Value} {tu : Int} {B bf bc nn : Nat} {Df Dc : DataW Unit} {lf lc : List Fct} {t : List Nd} (hc : CtxD w0 t tv B bf bc nn Df Dc lf lc) {qv fv wv : Value} {td : List Td} {fl : List Flw} {ws : List Wat} (h : RdR w0 w R Z Q tv tu B qv fv wv td fl ws)
    (hl : td.length ≤ 900) (hlf : fl.length ≤ 900) (hlw : ws.length ≤ 40000) (hto : tu ≤ 73048) (x : Td) (hx : CtA t x.p) (hop : opA t x.p = 16) (hq : fitsR x.q = true) (hd0 : 0 ≤ x.day) (hd1 : x.day ≤ 73048) :
    Calls Tryz.prog 51 #[.pointer (some ⟨R, 0, none⟩), .agg #[.int .i64 (x.p : Nat), .int .i64 x.day, .int .i64 x.q.num, .int .i64 ((x.q.den : Nat) : Int)], AcqV Z Q] w fun e w' => DoP w0 R Z Q tv tu B td fl ws e w' (stp t (envL lf lc) tu x) := by
  have hn0 : 0 < t.length := by have := hx.lt; omega
  obtain ⟨tb, to', tc, rfl, htc1, htc2, hT⟩ : ∃ b o cap, tv = .slice (some ⟨b, o, none⟩) t.length cap ∧ t.length ≤ cap ∧ cap ≤ 9223372036854775807 ∧ NdA w0 b o t := by
    rcases hc.sl with ⟨e, _⟩ | ⟨_, b, o, cap, h1, h2, h3, h4⟩
    · rw [e] at hn0; exact absurd hn0 (Nat.lt_irrefl _)
    · exact ⟨b, o, cap, h1, h2, h3, h4⟩
  have hb := newF w (.cells #[.int .i64 (x.p : Nat), .int .i64 x.day, .int .i64 x.q.num, .int .i64 ((x.q.den : Nat) : Int)] 128)
  have hx1 := h.keep hb
  have c0 : ∀ k v, (#[.int .i64 (x.p : Nat), .int .i64 x.day, .int .i64 x.q.num, .int .i64 ((x.q.den : Nat) : Int)] : Array Value)[k]? = some v → (w.alloc (.cells #[.int .i64 (x.p : Nat), .int .i64 x.day, .int .i64 x.q.num, .int .i64 ((x.q.den : Nat) : Int)] 128)).cell? ⟨w.heap.size, k, none⟩ = some v := fun k v hv => by rw [World.cell?_alloc_at _ _ _ _ rfl]; exact hv
  have x0 := c0 0 (.int .i64 (x.p : Nat)) rfl
  have x1 := c0 1 (.int .i64 x.day) rfl
  have x2 := c0 2 (.int .i64 x.q.num) rfl
  have x3 := c0 3 (.int .i64 ((x.q.den : Nat) : Int)) rfl
  have HXc := Lib.hid (And.intro x0 (And.intro x1 (And.intro x2 x3)))
  have HX := Lib.hid hx1
  have r0 := hx1.r0
  have HCx := Lib.hid hc
  have HXa := Lib.hid hx
  have HOp := Lib.hid hop
  have HQ := Lib.hid hq
  have HDy := Lib.hid (And.intro hd0 hd1)
  have HO := Lib.hid (fun (k : Nat) (hk : w.heap.size ≤ k) => (show k ≠ Q ∧ Off qv k ∧ k ≠ R ∧ Off wv k from ⟨by have := h.ltQ; omega, fun e => by have := (h.oq.lt k e).2; omega, by have := h.ltR; omega, fun e => by have := (h.ow.lt k e).2; omega⟩))
  have HWs : Hid (w.heap.size ≤ (w.alloc (.cells #[.int .i64 (x.p : Nat), .int .i64 x.day, .int .i64 x.q.num, .int .i64 ((x.q.den : Nat) : Int)] 128)).heap.size) := Lib.hid hb.size
  have p0 : (0 : Int) ≤ (x.p : Int) := by omega
  have p1 : (x.p : Int) < (t.length : Int) := by have := hx.lt; omega
  have HBl := Lib.hid (fun (w' : World) (hb' : Below (w.alloc (.cells #[.int .i64 (x.p : Nat), .int .i64 x.day, .int .i64 x.q.num, .int .i64 ((x.q.den : Nat) : Int)] 128)).heap.size (w.alloc (.cells #[.int .i64 (x.p : Nat), .int .i64 x.day, .int .i64 x.q.num, .int .i64 ((x.q.den : Nat) : Int)] 128)) w') => below_ok t (by have := hc.len; omega) tb to' tc x.p htc1 htc2 (ok_tm hc.ok hx.lt) w' (NdA.keep hT (hx1.keep hb').bel) (hc.kn.keep (hx1.keep hb').bel))
  rw [hop] at HBl
  obtain ⟨n0, n1, n2, n3, n4⟩ := NdA.keep hT hx1.bel x.p hx.lt
  have eop : (t.getD x.p default).op = 16 := hop
  have ea : (t.getD x.p default).a = aA t x.p := rfl
  have eb : (t.getD x.p default).b = bA t x.p := rfl
  rw [eop] at n0
  rw [ea] at n1
  rw [eb] at n2
  have HSt := Lib.hid (stp_or (t := t) (E := envL lf lc) (tu := tu) (x := x) hop)
  have HKa := fld_key (ofK_zero hc.ok).2.2.1 hx.lt (.inr (.inl hop))
  have HGi := Lib.hid (fun (w' : World) (h' : RdR w0 w' R Z Q (.slice (some ⟨tb, to', none⟩) t.length tc) tu B qv fv wv td fl ws) (g gc : Nat) (hcp : 2 ≤ gc) (hg : BlS w' R Q qv wv g [kid t x.p 0, kid t x.p 1]) => choose_any hc h' (by omega) hlw x hop ⟨by omega, by omega⟩ ⟨by omega, by omega⟩ g gc hcp hg)
  generalize (t.getD x.p default).num = zn at *
  generalize (t.getD x.p default).den = zd at *
  clear h hb hx hop hq c0 hn0 hT eop ea eb hx1 hc hd0 hd1
  generalize aA t x.p = ka at *
  generalize bA t x.p = kb at *
  generalize ((x.q.den : Nat) : Int) = xd at *
  generalize x.q.num = xn at *
  go_enter Tryz.func51, Tryz.ntmps51
  go_upto_region 1 with fail
  generalize w.alloc (.cells #[.int .i64 (x.p : Nat), .int .i64 x.day, .int .i64 xn, .int .i64 xd] 128) = w1 at *
  go_cut [7] (fun u wx => ∃ N, u = .pointer (some ⟨N, 0, none⟩) ∧ (wx.cell? ⟨N, 0, none⟩ = some (.int .i64 16) ∧ wx.cell? ⟨N, 1, none⟩ = some (.int .i64 ka) ∧ wx.cell? ⟨N, 2, none⟩ = some (.int .i64 kb)) ∧ w1.heap.size ≤ N ∧ Below w1.heap.size w1 wx)
  case first =>
    have hd : ∀ w', Below w1.heap.size w1 w' → (w'.cell? ⟨R, 0, none⟩ = some (.slice (some ⟨tb, to', none⟩) t.length tc) ∧ w'.cell? ⟨w.heap.size, 0, none⟩ = some (.int .i64 (x.p : Nat)) ∧ w'.cell? ⟨tb, to' + x.p * 5, none⟩ = some (.int .i64 16) ∧ w'.cell? ⟨tb, to' + x.p * 5 + 1, none⟩ = some (.int .i64 ka) ∧ w'.cell? ⟨tb, to' + x.p * 5 + 2, none⟩ = some (.int .i64 kb) ∧ w'.cell? ⟨tb, to' + x.p * 5 + 3, none⟩ = some (.int .i64 zn) ∧ w'.cell? ⟨tb, to' + x.p * 5 + 4, none⟩ = some (.int .i64 zd)) := fun w' hb => ⟨keepF hb r0, keepF hb x0, keepF hb n0, keepF hb n1, keepF hb n2, keepF hb n3, keepF hb n4⟩
    have ha : ∀ o, Below w1.heap.size w1 (w1.alloc o).drew := fun o => Below.drew (newF w1 o)
    have hs : ∀ (w' : World) (u0 u1 u2 u3 u4 : Value), Below w1.heap.size w1 w' → Below w1.heap.size w1 (((((w'.setCell ⟨w1.heap.size, 0, none⟩ u0).setCell ⟨w1.heap.size, 1, none⟩ u1).setCell ⟨w1.heap.size, 2, none⟩ u2).setCell ⟨w1.heap.size, 3, none⟩ u3).setCell ⟨w1.heap.size, 4, none⟩ u4) := fun w' u0 u1 u2 u3 u4 hb => Below.setCell (Below.setCell (Below.setCell (Below.setCell (Below.setCell hb (Nat.le_refl _) _) (Nat.le_refl _) _) (Nat.le_refl _) _) (Nat.le_refl _) _) (Nat.le_refl _) _
    clear r0 x0 x1 x2 x3 n0 n1 n2 n3 n4
    have hd0 := hd _ (Below.drew (Below.refl _ _))
    go_region_held3 (fun w' => w'.cell? ⟨R, 0, none⟩ = some (.slice (some ⟨tb, to', none⟩) t.length tc) ∧ w'.cell? ⟨w.heap.size, 0, none⟩ = some (.int .i64 (x.p : Nat)) ∧ w'.cell? ⟨tb, to' + x.p * 5, none⟩ = some (.int .i64 16) ∧ w'.cell? ⟨tb, to' + x.p * 5 + 1, none⟩ = some (.int .i64 ka) ∧ w'.cell? ⟨tb, to' + x.p * 5 + 2, none⟩ = some (.int .i64 kb) ∧ w'.cell? ⟨tb, to' + x.p * 5 + 3, none⟩ = some (.int .i64 zn) ∧ w'.cell? ⟨tb, to' + x.p * 5 + 4, none⟩ = some (.int .i64 zd))
      (first | (with_reducible exact hd0) | (with_reducible exact hd _ (ha _)) | exact hd _ (Below.drew (newF w1 _)) | exact hd _ (onF (Below.drew (Below.refl _ _)) (newF _ _)) | exact hd _ (hs _ _ _ _ _ _ (ha _)) | exact hd _ (hs _ _ _ _ _ _ (onF (Below.drew (Below.refl _ _)) (newF _ _))))
      (fail)
    all_goals (try go_wp2)
    all_goals go_meet
    all_goals first
      | exact ⟨_, rfl, ⟨cellN _ _ _ _ _ rfl, cellN _ _ _ _ _ rfl, cellN _ _ _ _ _ rfl⟩, Nat.le_refl _, by first | exact ha _ | exact onF (Below.drew (Below.refl _ _)) (newF _ _)⟩
  case rest =>
  obtain ⟨N, rfl, ⟨m0, m1, m2⟩, hN, hbn⟩ := hcut
  have HX2 := Lib.hid (HX.out.keep hbn)
  have r0 : wc.drew.cell? ⟨R, 0, none⟩ = some (.slice (some ⟨tb, to', none⟩) t.length tc) := keepF (Below.drew hbn) r0
  have x0 : wc.drew.cell? ⟨w.heap.size, 0, none⟩ = some (.int .i64 (x.p : Nat)) := keepF (Below.drew hbn) x0
  have HB2 := Lib.hid (HBl.out wc.drew (Below.drew hbn))
  have HW2 := Lib.hid (And.intro hbn hbn.size)
  have HM := Lib.hid (And.intro m0 (And.intro m1 m2))
  have HNw : Hid (w.heap.size ≤ N) := Lib.hid (Nat.le_trans HWs.out hN)
  clear x1 x2 x3 n0 n1 n2 n3 n4 m0 m1 m2 hbn HBl
  go_upto_region 2 with fail
  go_region_held3 (fun w' => w'.cell? ⟨R, 0, none⟩ = some (.slice (some ⟨tb, to', none⟩) t.length tc) ∧ w'.cell? ⟨w.heap.size, 0, none⟩ = some (.int .i64 (x.p : Nat)))
    (first | (with_reducible exact ⟨r0, x0⟩))
    ((go_at_call 79; (with_reducible refine HB2.out.mono ?_); rintro e w3 ⟨bv, rfl, hbo, hb3⟩; have HBo := Lib.hid hbo; have HB3 : Hid (Below wc.heap.size wc w3) := Lib.hid (onF (Below.drew (Below.refl _ _)) hb3); have r0 := keepF hb3 r0; have x0 := keepF hb3 x0; obtain ⟨ba, bl, bcp, rfl⟩ : ∃ a l c, bv = .slice a l c := (by rcases hbo.reads with ⟨e, _⟩ | ⟨g', c', e, _⟩ <;> exact ⟨_, _, _, e⟩); clear hbo hb3))
  have HX3 := Lib.hid (HX2.out.keep HB3.out)
  have HXc3 := Lib.hid (And.intro (keepF HB3.out (keepF HW2.out.1 HXc.out.1)) (And.intro (keepF HB3.out (keepF HW2.out.1 HXc.out.2.1)) (And.intro (keepF HB3.out (keepF HW2.out.1 HXc.out.2.2.1)) (keepF HB3.out (keepF HW2.out.1 HXc.out.2.2.2)))))
  have m0 := keepF HB3.out HM.out.1
  have m1 := keepF HB3.out HM.out.2.1
  have m2 := keepF HB3.out HM.out.2.2
  obtain ⟨x0, x1, x2, x3⟩ := HXc3.out
  have HW3 : Hid (w.heap.size ≤ wc.drew.heap.size) := Lib.hid (by
    have h1 := HW2.out.2
    have h2 : w.heap.size ≤ w1.heap.size := HWs.out
    exact Nat.le_trans h2 h1)
  clear r0 HX2 HB2 HM
  have hbo := HBo.out
  rw [show cnO 16 = 2 from by decide, pl_kids] at hbo
  obtain ⟨g, gcap, hv, hcap, hg⟩ := bls_own (R := R) (Q := Q) (qv := qv) (wv := wv) hbo (by simp) (fun k hk => HO.out k (Nat.le_trans HW3.out hk))
  have hg : BlS w3 R Q qv wv g [kid t x.p 0, kid t x.p 1] := hg
  have hcap : 2 ≤ gcap := hcap
  have hv : Value.slice ba bl bcp = .slice (some ⟨g, 0, none⟩) 2 gcap := hv
  injection hv with e1 e2 e3
  subst e1 e2 e3
  have HG := Lib.hid hg
  have HCp := Lib.hid hcap
  clear hbo hg hcap HBo
  have HG3 := Lib.hid (HGi.out w3 HX3.out g bcp HCp.out HG.out)
  clear HGi HKa
  go_wp2_with fail
  refine HG3.out.mono ?_
  rintro e w5 ⟨rfl, ts, ws', hs, hm⟩
  have HM5 := Lib.hid (And.intro hs hm)
  clear hs hm x0 x1 x2 x3 m0 m1 m2
  go_wp2_with fail
  go_ret
  rw [HM5.out.1]
  exact ⟨rfl, by simpa using HM5.out.2⟩
set_option maxRecDepth 100000 in
set_option maxHeartbeats 4000000 in
theorem do_17 {w0 w : World} {R Z Q : Nat} {tv : Value} {tu : Int} {B bf bc nn : Nat} {Df Dc : DataW Unit} {lf lc : List Fct} {t : List Nd} (hc : CtxD w0 t tv B bf bc nn Df Dc lf lc) {qv fv wv : Value} {td : List Td} {fl : List Flw} {ws : List Wat} (h : RdR w0 w R Z Q tv tu B qv fv wv td fl ws)
    (hl : td.length ≤ 900) (hlf : fl.length ≤ 900) (hlw : ws.length ≤ 40000) (hto : tu ≤ 73048) (x : Td) (hx : CtA t x.p) (hop : opA t x.p = 17) (hq : fitsR x.q = true) (hd0 : 0 ≤ x.day) (hd1 : x.day ≤ 73048) :
    Calls Tryz.prog 51 #[.pointer (some ⟨R, 0, none⟩), .agg #[.int .i64 (x.p : Nat), .int .i64 x.day, .int .i64 x.q.num, .int .i64 ((x.q.den : Nat) : Int)], AcqV Z Q] w fun e w' => DoP w0 R Z Q tv tu B td fl ws e w' (stp t (envL lf lc) tu x) := by
  have hn0 : 0 < t.length := by have := hx.lt; omega
  obtain ⟨tb, to', tc, rfl, htc1, htc2, hT⟩ : ∃ b o cap, tv = .slice (some ⟨b, o, none⟩) t.length cap ∧ t.length ≤ cap ∧ cap ≤ 9223372036854775807 ∧ NdA w0 b o t := by
    rcases hc.sl with ⟨e, _⟩ | ⟨_, b, o, cap, h1, h2, h3, h4⟩
    · rw [e] at hn0; exact absurd hn0 (Nat.lt_irrefl _)
    · exact ⟨b, o, cap, h1, h2, h3, h4⟩
  have hb := newF w (.cells #[.int .i64 (x.p : Nat), .int .i64 x.day, .int .i64 x.q.num, .int .i64 ((x.q.den : Nat) : Int)] 128)
  have hx1 := h.keep hb
  have c0 : ∀ k v, (#[.int .i64 (x.p : Nat), .int .i64 x.day, .int .i64 x.q.num, .int .i64 ((x.q.den : Nat) : Int)] : Array Value)[k]? = some v → (w.alloc (.cells #[.int .i64 (x.p : Nat), .int .i64 x.day, .int .i64 x.q.num, .int .i64 ((x.q.den : Nat) : Int)] 128)).cell? ⟨w.heap.size, k, none⟩ = some v := fun k v hv => by rw [World.cell?_alloc_at _ _ _ _ rfl]; exact hv
  have x0 := c0 0 (.int .i64 (x.p : Nat)) rfl
  have x1 := c0 1 (.int .i64 x.day) rfl
  have x2 := c0 2 (.int .i64 x.q.num) rfl
  have x3 := c0 3 (.int .i64 ((x.q.den : Nat) : Int)) rfl
  have HXc := Lib.hid (And.intro x0 (And.intro x1 (And.intro x2 x3)))
  have HX := Lib.hid hx1
  have r0 := hx1.r0
  have HCx := Lib.hid hc
  have HXa := Lib.hid hx
  have HOp := Lib.hid hop
  have HQ := Lib.hid hq
  have HDy := Lib.hid (And.intro hd0 hd1)
  have HO := Lib.hid (fun (k : Nat) (hk : w.heap.size ≤ k) => (show k ≠ Q ∧ Off qv k ∧ k ≠ R ∧ Off wv k from ⟨by have := h.ltQ; omega, fun e => by have := (h.oq.lt k e).2; omega, by have := h.ltR; omega, fun e => by have := (h.ow.lt k e).2; omega⟩))
  have HWs : Hid (w.heap.size ≤ (w.alloc (.cells #[.int .i64 (x.p : Nat), .int .i64 x.day, .int .i64 x.q.num, .int .i64 ((x.q.den : Nat) : Int)] 128)).heap.size) := Lib.hid hb.size
  have p0 : (0 : Int) ≤ (x.p : Int) := by omega
  have p1 : (x.p : Int) < (t.length : Int) := by have := hx.lt; omega
  have HBl := Lib.hid (fun (w' : World) (hb' : Below (w.alloc (.cells #[.int .i64 (x.p : Nat), .int .i64 x.day, .int .i64 x.q.num, .int .i64 ((x.q.den : Nat) : Int)] 128)).heap.size (w.alloc (.cells #[.int .i64 (x.p : Nat), .int .i64 x.day, .int .i64 x.q.num, .int .i64 ((x.q.den : Nat) : Int)] 128)) w') => below_ok t (by have := hc.len; omega) tb to' tc x.p htc1 htc2 (ok_tm hc.ok hx.lt) w' (NdA.keep hT (hx1.keep hb').bel) (hc.kn.keep (hx1.keep hb').bel))
  rw [hop] at HBl
  obtain ⟨n0, n1, n2, n3, n4⟩ := NdA.keep hT hx1.bel x.p hx.lt
  have eop : (t.getD x.p default).op = 17 := hop
  have ea : (t.getD x.p default).a = aA t x.p := rfl
  have eb : (t.getD x.p default).b = bA t x.p := rfl
  rw [eop] at n0
  rw [ea] at n1
  rw [eb] at n2
  have HSt := Lib.hid (stp_any (t := t) (E := envL lf lc) (tu := tu) (x := x) hop)
  have HAc := Lib.hid (fun (k : Nat) (d : Int) (w' : World) (h' : RdR w0 w' R Z Q (.slice (some ⟨tb, to', none⟩) t.length tc) tu B qv fv wv td fl ws) => acq_any h' (by omega) ⟨k, d, x.q⟩ (k : Nat) x.q.num ((x.q.den : Nat) : Int) rfl rfl rfl d rfl)
  have HKa := fld_key (ofK_zero hc.ok).2.2.1 hx.lt (.inr (.inr hop))
  have HFi := Lib.hid (fun (w' : World) (hb' : Below w0.heap.size w0 w') => first_l (lf := lf) w' (hc.keep hb').fm hc.rc (aA t x.p) x.day (min (bA t x.p) tu) ⟨by omega, by omega⟩)
  generalize (t.getD x.p default).num = zn at *
  generalize (t.getD x.p default).den = zd at *
  clear h hb hx hop hq c0 hn0 hT eop ea eb hx1 hc hd0 hd1
  generalize aA t x.p = ka at *
  generalize bA t x.p = kb at *
  generalize ((x.q.den : Nat) : Int) = xd at *
  generalize x.q.num = xn at *
  unfold AcqV
  go_enter Tryz.func51, Tryz.ntmps51
  go_upto_region 1 with fail
  generalize w.alloc (.cells #[.int .i64 (x.p : Nat), .int .i64 x.day, .int .i64 xn, .int .i64 xd] 128) = w1 at *
  go_cut [7] (fun u wx => ∃ N, u = .pointer (some ⟨N, 0, none⟩) ∧ (wx.cell? ⟨N, 0, none⟩ = some (.int .i64 17) ∧ wx.cell? ⟨N, 1, none⟩ = some (.int .i64 ka) ∧ wx.cell? ⟨N, 2, none⟩ = some (.int .i64 kb)) ∧ w1.heap.size ≤ N ∧ Below w1.heap.size w1 wx)
  case first =>
    have hd : ∀ w', Below w1.heap.size w1 w' → (w'.cell? ⟨R, 0, none⟩ = some (.slice (some ⟨tb, to', none⟩) t.length tc) ∧ w'.cell? ⟨w.heap.size, 0, none⟩ = some (.int .i64 (x.p : Nat)) ∧ w'.cell? ⟨tb, to' + x.p * 5, none⟩ = some (.int .i64 17) ∧ w'.cell? ⟨tb, to' + x.p * 5 + 1, none⟩ = some (.int .i64 ka) ∧ w'.cell? ⟨tb, to' + x.p * 5 + 2, none⟩ = some (.int .i64 kb) ∧ w'.cell? ⟨tb, to' + x.p * 5 + 3, none⟩ = some (.int .i64 zn) ∧ w'.cell? ⟨tb, to' + x.p * 5 + 4, none⟩ = some (.int .i64 zd)) := fun w' hb => ⟨keepF hb r0, keepF hb x0, keepF hb n0, keepF hb n1, keepF hb n2, keepF hb n3, keepF hb n4⟩
    have ha : ∀ o, Below w1.heap.size w1 (w1.alloc o).drew := fun o => Below.drew (newF w1 o)
    have hs : ∀ (w' : World) (u0 u1 u2 u3 u4 : Value), Below w1.heap.size w1 w' → Below w1.heap.size w1 (((((w'.setCell ⟨w1.heap.size, 0, none⟩ u0).setCell ⟨w1.heap.size, 1, none⟩ u1).setCell ⟨w1.heap.size, 2, none⟩ u2).setCell ⟨w1.heap.size, 3, none⟩ u3).setCell ⟨w1.heap.size, 4, none⟩ u4) := fun w' u0 u1 u2 u3 u4 hb => Below.setCell (Below.setCell (Below.setCell (Below.setCell (Below.setCell hb (Nat.le_refl _) _) (Nat.le_refl _) _) (Nat.le_refl _) _) (Nat.le_refl _) _) (Nat.le_refl _) _
    clear r0 x0 x1 x2 x3 n0 n1 n2 n3 n4
    have hd0 := hd _ (Below.drew (Below.refl _ _))
    go_region_held3 (fun w' => w'.cell? ⟨R, 0, none⟩ = some (.slice (some ⟨tb, to', none⟩) t.length tc) ∧ w'.cell? ⟨w.heap.size, 0, none⟩ = some (.int .i64 (x.p : Nat)) ∧ w'.cell? ⟨tb, to' + x.p * 5, none⟩ = some (.int .i64 17) ∧ w'.cell? ⟨tb, to' + x.p * 5 + 1, none⟩ = some (.int .i64 ka) ∧ w'.cell? ⟨tb, to' + x.p * 5 + 2, none⟩ = some (.int .i64 kb) ∧ w'.cell? ⟨tb, to' + x.p * 5 + 3, none⟩ = some (.int .i64 zn) ∧ w'.cell? ⟨tb, to' + x.p * 5 + 4, none⟩ = some (.int .i64 zd))
      (first | (with_reducible exact hd0) | (with_reducible exact hd _ (ha _)) | exact hd _ (Below.drew (newF w1 _)) | exact hd _ (onF (Below.drew (Below.refl _ _)) (newF _ _)) | exact hd _ (hs _ _ _ _ _ _ (ha _)) | exact hd _ (hs _ _ _ _ _ _ (onF (Below.drew (Below.refl _ _)) (newF _ _))))
      (fail)
    all_goals (try go_wp2)
    all_goals go_meet
    all_goals first
      | exact ⟨_, rfl, ⟨cellN _ _ _ _ _ rfl, cellN _ _ _ _ _ rfl, cellN _ _ _ _ _ rfl⟩, Nat.le_refl _, by first | exact ha _ | exact onF (Below.drew (Below.refl _ _)) (newF _ _)⟩
  case rest =>
  obtain ⟨N, rfl, ⟨m0, m1, m2⟩, hN, hbn⟩ := hcut
  have HX2 := Lib.hid (HX.out.keep hbn)
  have r0 : wc.drew.cell? ⟨R, 0, none⟩ = some (.slice (some ⟨tb, to', none⟩) t.length tc) := keepF (Below.drew hbn) r0
  have x0 : wc.drew.cell? ⟨w.heap.size, 0, none⟩ = some (.int .i64 (x.p : Nat)) := keepF (Below.drew hbn) x0
  have HB2 := Lib.hid (HBl.out wc.drew (Below.drew hbn))
  have HW2 := Lib.hid (And.intro hbn hbn.size)
  have HM := Lib.hid (And.intro m0 (And.intro m1 m2))
  have HNw : Hid (w.heap.size ≤ N) := Lib.hid (Nat.le_trans HWs.out hN)
  clear x1 x2 x3 n0 n1 n2 n3 n4 m0 m1 m2 hbn HBl
  go_upto_region 2 with fail
  go_region_held3 (fun w' => w'.cell? ⟨R, 0, none⟩ = some (.slice (some ⟨tb, to', none⟩) t.length tc) ∧ w'.cell? ⟨w.heap.size, 0, none⟩ = some (.int .i64 (x.p : Nat)))
    (first | (with_reducible exact ⟨r0, x0⟩))
    ((go_at_call 79; (with_reducible refine HB2.out.mono ?_); rintro e w3 ⟨bv, rfl, hbo, hb3⟩; have HBo := Lib.hid hbo; have HB3 : Hid (Below wc.heap.size wc w3) := Lib.hid (onF (Below.drew (Below.refl _ _)) hb3); have r0 := keepF hb3 r0; have x0 := keepF hb3 x0; obtain ⟨ba, bl, bcp, rfl⟩ : ∃ a l c, bv = .slice a l c := (by rcases hbo.reads with ⟨e, _⟩ | ⟨g', c', e, _⟩ <;> exact ⟨_, _, _, e⟩); clear hbo hb3))
  have HX3 := Lib.hid (HX2.out.keep HB3.out)
  have HXc3 := Lib.hid (And.intro (keepF HB3.out (keepF HW2.out.1 HXc.out.1)) (And.intro (keepF HB3.out (keepF HW2.out.1 HXc.out.2.1)) (And.intro (keepF HB3.out (keepF HW2.out.1 HXc.out.2.2.1)) (keepF HB3.out (keepF HW2.out.1 HXc.out.2.2.2)))))
  have m0 := keepF HB3.out HM.out.1
  have m1 := keepF HB3.out HM.out.2.1
  have m2 := keepF HB3.out HM.out.2.2
  obtain ⟨x0, x1, x2, x3⟩ := HXc3.out
  have HW3 : Hid (w.heap.size ≤ wc.drew.heap.size) := Lib.hid (by
    have h1 := HW2.out.2
    have h2 : w.heap.size ≤ w1.heap.size := HWs.out
    exact Nat.le_trans h2 h1)
  clear r0 HX2 HB2 HM
  have hbo := HBo.out
  rw [show cnO 17 = 1 from by decide, pl_kids] at hbo
  obtain ⟨g, gcap, hv, hcap, hg⟩ := bls_own (R := R) (Q := Q) (qv := qv) (wv := wv) hbo (by simp) (fun k hk => HO.out k (Nat.le_trans HW3.out hk))
  have hg : BlS w3 R Q qv wv g [kid t x.p 0] := hg
  have hcap : 1 ≤ gcap := hcap
  have hv : Value.slice ba bl bcp = .slice (some ⟨g, 0, none⟩) 1 gcap := hv
  injection hv with e1 e2 e3
  subst e1 e2 e3
  have HG := Lib.hid hg
  have HCp := Lib.hid hcap
  clear hbo hg hcap HBo
  generalize kid t x.p 0 = k0 at *
  clear HKa
  have HF3 := Lib.hid (HFi.out w3.drew (HX3.out.keep (Below.drew (Below.refl _ _))).bel)
  have r1 : w3.drew.cell? ⟨R, 1, none⟩ = some (.int .i64 tu) := HX3.out.r1
  have r2 : w3.drew.cell? ⟨R, 2, none⟩ = some (.pointer (some ⟨B, 0, none⟩)) := HX3.out.r2
  have m1 : w3.drew.cell? ⟨N, 1, none⟩ = some (.int .i64 ka) := m1
  have m2 : w3.drew.cell? ⟨N, 2, none⟩ = some (.int .i64 kb) := m2
  have x1 : w3.drew.cell? ⟨w.heap.size, 1, none⟩ = some (.int .i64 x.day) := x1
  obtain ⟨mn, hmn⟩ : ∃ m, m = min kb tu := ⟨_, rfl⟩
  have hmn2 : IntKind.i64.wrap mn = mn ∨ True := .inr trivial
  rw [← hmn] at HF3 HSt
  have HMn := Lib.hid hmn
  clear hmn hmn2 HFi
  cases hfs : (envL lf lc).fs ka x.day mn with
  | some d =>
    rw [hfs] at HF3 HSt
    have HSw : Hid (∃ ts, stp t (envL lf lc) tu x = some (ts, [], []) ∧ ts.flatMap (acqL tu) = acqL tu ⟨k0, d, x.q⟩) := Lib.hid ⟨_, HSt.out, by simp⟩
    clear hfs HSt
    go_upto_region 21 with fail
    go_region_held3 (fun w' => w'.cell? ⟨R, 1, none⟩ = some (.int .i64 tu) ∧ w'.cell? ⟨R, 2, none⟩ = some (.pointer (some ⟨B, 0, none⟩)) ∧ w'.cell? ⟨N, 1, none⟩ = some (.int .i64 ka) ∧ w'.cell? ⟨N, 2, none⟩ = some (.int .i64 kb) ∧ w'.cell? ⟨w.heap.size, 1, none⟩ = some (.int .i64 x.day))
      (first | (with_reducible exact ⟨r1, r2, m1, m2, x1⟩))
      ((go_at_call 86; (try rw [← HMn.out]); refine HF3.out.mono ?_; rintro e w4 ⟨rfl, hb4⟩; have HB4 : Hid (Below w3.heap.size w3 w4) := Lib.hid (onF (Below.drew (Below.refl _ _)) hb4); have r1 := keepF hb4 r1; have r2 := keepF hb4 r2; have m1 := keepF hb4 m1; have m2 := keepF hb4 m2; have x1 := keepF hb4 x1; clear hb4))
    have HA4 := Lib.hid (HAc.out k0 d w4.drew (HX3.out.keep (Below.drew HB4.out)))
    have g0 : w4.drew.cell? ⟨g, 0, none⟩ = some (.int .i64 (k0 : Nat)) := keepF (Below.drew HB4.out) (HG.out.c 0 (by simp))
    have x2 : w4.drew.cell? ⟨w.heap.size, 2, none⟩ = some (.int .i64 xn) := keepF (Below.drew HB4.out) x2
    have x3 : w4.drew.cell? ⟨w.heap.size, 3, none⟩ = some (.int .i64 xd) := keepF (Below.drew HB4.out) x3
    clear HAc HF3
    generalize acqL tu ⟨k0, d, x.q⟩ = al at *
    go_upto_region 23 with fail
    go_region_held3 (fun w' => w'.cell? ⟨g, 0, none⟩ = some (.int .i64 (k0 : Nat)) ∧ w'.cell? ⟨w.heap.size, 2, none⟩ = some (.int .i64 xn) ∧ w'.cell? ⟨w.heap.size, 3, none⟩ = some (.int .i64 xd))
      (first | (with_reducible exact ⟨g0, x2, x3⟩))
      ((go_at_call 50; refine (HA4.out).mono ?_; rintro e w6 ⟨rfl, qv', hr, hlet, _⟩; have HR5 := Lib.hid hr; have g0 := hlet.cell g0 HG.out.nQ HG.out.oq; have x2 := hlet.cell x2 (HO.out _ (Nat.le_refl _)).1 (HO.out _ (Nat.le_refl _)).2.1; have x3 := hlet.cell x3 (HO.out _ (Nat.le_refl _)).1 (HO.out _ (Nat.le_refl _)).2.1; clear hr hlet))
    go_wp2_with fail
    go_ret
    obtain ⟨ts, h1, h2⟩ := HSw.out
    rw [h1]
    exact ⟨rfl, by rw [h2, List.append_nil, List.append_nil]; exact ⟨_, _, _, HR5.out⟩⟩
  | none =>
    rw [hfs] at HF3 HSt
    clear hfs HAc
    go_upto_region 21 with fail
    go_region_held3 (fun w' => w'.cell? ⟨R, 1, none⟩ = some (.int .i64 tu) ∧ w'.cell? ⟨R, 2, none⟩ = some (.pointer (some ⟨B, 0, none⟩)) ∧ w'.cell? ⟨N, 1, none⟩ = some (.int .i64 ka) ∧ w'.cell? ⟨N, 2, none⟩ = some (.int .i64 kb) ∧ w'.cell? ⟨w.heap.size, 1, none⟩ = some (.int .i64 x.day))
      (first | (with_reducible exact ⟨r1, r2, m1, m2, x1⟩))
      ((go_at_call 86; (try rw [← HMn.out]); refine HF3.out.mono ?_; rintro e w4 ⟨rfl, hb4⟩; have HB4 : Hid (Below w3.heap.size w3 w4) := Lib.hid (onF (Below.drew (Below.refl _ _)) hb4); have r1 := keepF hb4 r1; have r2 := keepF hb4 r2; have m1 := keepF hb4 m1; have m2 := keepF hb4 m2; have x1 := keepF hb4 x1; clear hb4))
    have HX4 := Lib.hid (HX3.out.keep HB4.out)
    go_wp2_with fail
    go_ret
    rw [HSt.out]
    exact ⟨rfl, DnM.nil ⟨_, _, _, HX4.out⟩⟩

end Go.Proofs.YtgeneoamngfomaaGreatDoor

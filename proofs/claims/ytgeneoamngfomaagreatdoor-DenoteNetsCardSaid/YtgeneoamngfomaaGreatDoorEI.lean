/-
  Package denote: scale: what it answers.
-/
import Derived.Test.YtgeneoamngfomaaGreatDoorEM
import Derived.Test.YtgeneoamngfomaaGreatDoorRtC
import Derived.Test.YtgeneoamngfomaaGreatDoorRtL
import Derived.Deep.DeepCutAuto
import Derived.Test.YtgeneoamngfomaaGreatDoorVlB
import Derived.Test.YtgeneoamngfomaaGreatDoorFcPa
import Derived.Test.YtgeneoamngfomaaGreatDoorFcF
namespace Go.Proofs.YtgeneoamngfomaaGreatDoor
open Go.RowKit Go.Lib Go.Maps
set_option linter.unusedVariables false
set_option linter.unusedSimpArgs false

/-- What is done of a place, as it lies in memory. -/
def DoP (w0 : World) (R Z Q : Nat) (tv : Value) (tu : Int) (B : Nat) (td : List Td) (fl : List Flw) (ws : List Wat) (e : Ending) (w' : World) : Option (List Td × List Flw × List Wat) → Prop
  | none => e = .returned (.int .i64 11) ∧ Below w0.heap.size w0 w'
  | some r => e = .returned (.int .i64 0) ∧ DnM w0 w' R Z Q tv tu B (td ++ r.1.flatMap (acqL tu)) (fl ++ r.2.1) (ws ++ r.2.2)
theorem AskP.shape {wv : Value} {w0 w : World} {R Z Q : Nat} {tv : Value} {tu : Int} {B : Nat} {td : List Td} {fl : List Flw} {ws : List Wat} {t : List Nd} {E : Env} {day : Int} {ps : List Nat} {e : Ending} {w' : World} (h : AskP wv w0 w R Z Q tv tu B td fl ws t E day ps e w') :
    ∃ a n c kn er, e = .returned (.tuple #[.slice a n c, .bool kn, .int .i64 er]) := by
  rcases h with ⟨_, rfl, _⟩ | ⟨_, _, rfl, _, _⟩ | ⟨rs, vv, _, rfl, ho, _⟩
  · exact ⟨_, _, _, _, _, rfl⟩
  · exact ⟨_, _, _, _, _, rfl⟩
  · obtain ⟨a, c, rfl⟩ := ho.slice
    exact ⟨_, _, _, _, _, rfl⟩
theorem tup3_inj {a b : Value} {k k' : Bool} {x y : Int} (h : Ending.returned (.tuple #[a, .bool k, .int .i64 x]) = .returned (.tuple #[b, .bool k', .int .i64 y])) : a = b ∧ k = k' ∧ x = y := by
  injection h with h; injection h with h; injection h with h
  injection h with h1 h; injection h with h2 h; injection h with h3 _
  injection h2 with h2
  injection h3 with _ h3
  exact ⟨h1, h2, h3⟩
theorem mul_fit {q v : Rat} (hq : fitsR q = true) (hv : fitsR v = true) (w : World) : Calls Tryz.prog 120 #[.agg #[.int .i64 q.num, .int .i64 ((q.den : Nat) : Int)], .agg #[.int .i64 v.num, .int .i64 ((v.den : Nat) : Int)]] w fun e w' => e = .returned (.tuple #[.agg #[.int .i64 (rN (q * v)), .int .i64 (rD (q * v))], .int .i64 (rE (q * v))]) ∧ Below w.heap.size w w' := by
  obtain ⟨a1, a2, a3, a4⟩ := limQ hq
  obtain ⟨b1, b2, b3, b4⟩ := limQ hv
  have h := mulr_any q.num ((q.den : Nat) : Int) v.num ((v.den : Nat) : Int) w a1 a2 a3 a4 b1 b2 b3 b4
  have e : bothE q.num ((q.den : Nat) : Int) v.num ((v.den : Nat) : Int) = 0 := by
    unfold bothE
    rw [chkQ hq, chkQ hv]; rfl
  rw [rat_of, rat_of] at h
  unfold opN opD opE at h
  rw [if_pos e, if_pos e, if_pos e] at h
  exact h
theorem vl_ok {w : World} {t : List Nd} {tv : Value} {B bf bc nn : Nat} {Df Dc : DataW Unit} {lf lc : List Fct} (h : CtxD w t tv B bf bc nn Df Dc lf lc) {p : Nat} (hp : p < t.length) (hm : mkO (opA t p) = 1) {day : Int} {r : Rat} (hv : vlA t ((envL lf lc).fx day) p = some (some r)) : fitsR r = true :=
  vl_fits (fun q hq e => num_ok h.ok h.bd hq e) (fun k r hr => fx_fits h.of day k r hr) (szA t p) p (Nat.le_refl _) (num_at h.ok hp hm).1 r hv
theorem zero_at2x {w w' : World} {ty : TypeId} (hb : Below (w.alloc (.cells #[.int .i64 0, .int .i64 0] ty)).drew.heap.size (w.alloc (.cells #[.int .i64 0, .int .i64 0] ty)).drew w') :
    w'.cell? ⟨w.heap.size, 0, none⟩ = some (.int .i64 0) ∧ w'.cell? ⟨w.heap.size, 1, none⟩ = some (.int .i64 0) ∧ w'.frozen? ⟨w.heap.size, 0, none⟩ = false ∧ w'.frozen? ⟨w.heap.size, 1, none⟩ = false := by
  have hlt : w.heap.size < (w.alloc (.cells #[.int .i64 0, .int .i64 0] ty)).drew.heap.size := by show _ < (w.alloc (.cells #[.int .i64 0, .int .i64 0] ty)).heap.size; simp
  have c : ∀ k v, (#[.int .i64 0, .int .i64 0] : Array Value)[k]? = some v → w'.cell? ⟨w.heap.size, k, none⟩ = some v := fun k v h => (World.cell?_of_block (hb.block _ hlt)).trans (by show (w.alloc _).cell? _ = _; rw [World.cell?_alloc_at _ _ _ _ rfl]; exact h)
  have f : ∀ k, w'.frozen? ⟨w.heap.size, k, none⟩ = false := fun k => (World.frozen?_of_block (a := ⟨w.heap.size, k, none⟩) (hb.block _ hlt)).trans (by show (w.alloc _).frozen? _ = _; exact World.frozen?_alloc_at _ _ _ _ rfl)
  exact ⟨c 0 _ rfl, c 1 _ rfl, f 0, f 1⟩
/-- Where the terms below a place begin, as it lies, apart from what is put. -/
structure BlS (w : World) (R Q : Nat) (qv wv : Value) (g : Nat) (ks : List Nat) : Prop where
  c : ∀ j, j < ks.length → w.cell? ⟨g, j, none⟩ = some (.int .i64 (ks.getD j 0 : Nat))
  nQ : g ≠ Q
  oq : Off qv g
  nR : g ≠ R
  ow : Off wv g
theorem BlS.keep {w w' : World} {R Q : Nat} {qv wv : Value} {g : Nat} {ks : List Nat} (h : BlS w R Q qv wv g ks) (hb : Below w.heap.size w w') : BlS w' R Q qv wv g ks := ⟨fun j hj => keepF hb (h.c j hj), h.nQ, h.oq, h.nR, h.ow⟩
theorem kys_new {w : World} {R : Nat} {wv : Value} (hR : R < w.heap.size) (hw : ∀ k, wv.ownBlock = some k → k < w.heap.size) (ks : List Int) (cs : Array Value) (hcs : ∀ j, j < ks.length → cs[j]? = some (.int .i64 (ks.getD j 0))) (ty : TypeId) : KyS (w.alloc (.cells cs ty)) R wv w.heap.size ks :=
  ⟨fun j hj => by rw [World.cell?_alloc_at _ _ _ _ rfl]; exact hcs j hj, fun _ => by omega, fun _ e => by have := hw _ e; omega⟩
set_option maxRecDepth 100000 in
set_option maxHeartbeats 4000000 in
theorem scale_any {w0 w : World} {R Z Q : Nat} {tv : Value} {tu : Int} {B bf bc nn : Nat} {Df Dc : DataW Unit} {lf lc : List Fct} {t : List Nd} (hc : CtxD w0 t tv B bf bc nn Df Dc lf lc) {qv fv wv : Value} {td : List Td} {fl : List Flw} {ws : List Wat} (h : RdR w0 w R Z Q tv tu B qv fv wv td fl ws)
    (hl : td.length ≤ 1000) (hlw : ws.length ≤ 40000) (x : Td) (hx : CtA t x.p) (hop : opA t x.p = 13) (hq : fitsR x.q = true) (hd0 : 0 ≤ x.day) (hd1 : x.day ≤ 73048) (g cap : Nat) (hcap : 2 ≤ cap) (hg : BlS w R Q qv wv g [kid t x.p 0, kid t x.p 1]) :
    Calls Tryz.prog 83 #[.pointer (some ⟨R, 0, none⟩), .agg #[.int .i64 (x.p : Nat), .int .i64 x.day, .int .i64 x.q.num, .int .i64 ((x.q.den : Nat) : Int)], .slice (some ⟨g, 0, none⟩) 2 cap, AcqV Z Q] w fun e w' => DoP w0 R Z Q tv tu B td fl ws e w' (stp t (envL lf lc) tu x) := by
  obtain ⟨n1, n2, _, _⟩ := kid_any hc.ok hx.lt (i := 0) (by rw [hop]; decide)
  have hnm : mkO (opA t (kid t x.p 0)) = 1 := n2.trans (by rw [hop]; decide)
  have HSt := Lib.hid (stp_scale (t := t) (E := envL lf lc) (tu := tu) (x := x) hop)
  have HVk := Lib.hid (fun r hr => vl_ok (day := x.day) (r := r) hc n1 hnm hr)
  have hb := newF w (.cells #[.int .i64 (x.p : Nat), .int .i64 x.day, .int .i64 x.q.num, .int .i64 ((x.q.den : Nat) : Int)] 128)
  have hx1 := h.keep hb
  have HAs := Lib.hid (fun (W : World) (pg : Nat) (hb' : Below (w.alloc (.cells #[.int .i64 (x.p : Nat), .int .i64 x.day, .int .i64 x.q.num, .int .i64 ((x.q.den : Nat) : Int)] 128)).heap.size (w.alloc (.cells #[.int .i64 (x.p : Nat), .int .i64 x.day, .int .i64 x.q.num, .int .i64 ((x.q.den : Nat) : Int)] 128)) W) (hk : KyS W R wv pg [((kid t x.p 0 : Nat) : Int)]) => ask_any hc (hx1.keep hb') [kid t x.p 0] (by simp; omega) (fun p hp => by obtain rfl := List.mem_singleton.1 hp; exact ⟨n1, hnm⟩) pg 1 (by simp) hk x.day hd0 hd1)
  have HKn := Lib.hid (kys_new hx1.ltR (fun k e => (hx1.ow.lt k e).2) [((kid t x.p 0 : Nat) : Int)] #[.int .i64 (kid t x.p 0 : Nat)] (fun j hj => by have hj' : j = 0 := (by simpa using hj); subst hj'; rfl) 3)
  have HMu := Lib.hid (fun (r : Rat) (hr : fitsR r = true) (w' : World) => mul_fit hq hr w')
  have HAc := Lib.hid (fun (w' : World) (r : Rat) (h' : RdR w0 w' R Z Q tv tu B qv fv wv td fl ws) => acq_any h' hl ⟨kid t x.p 1, x.day, r⟩ (kid t x.p 1 : Nat) r.num ((r.den : Nat) : Int) rfl rfl rfl x.day rfl)
  have c0 : ∀ k v, (#[.int .i64 (x.p : Nat), .int .i64 x.day, .int .i64 x.q.num, .int .i64 ((x.q.den : Nat) : Int)] : Array Value)[k]? = some v → (w.alloc (.cells #[.int .i64 (x.p : Nat), .int .i64 x.day, .int .i64 x.q.num, .int .i64 ((x.q.den : Nat) : Int)] 128)).cell? ⟨w.heap.size, k, none⟩ = some v := fun k v hv => by rw [World.cell?_alloc_at _ _ _ _ rfl]; exact hv
  have x1 := c0 1 (.int .i64 x.day) rfl
  have x2 := c0 2 (.int .i64 x.q.num) rfl
  have x3 := c0 3 (.int .i64 ((x.q.den : Nat) : Int)) rfl
  have HX := Lib.hid hx1
  have HB1 := Lib.hid hb
  have HG := Lib.hid (hg.keep hb)
  have g0 := HG.out.c 0 (by simp)
  change _ = some (Value.int .i64 (kid t x.p 0 : Nat)) at g0
  have HXc := Lib.hid (And.intro x1 (And.intro x2 x3))
  have HO := Lib.hid (fun (k : Nat) (hk : w.heap.size ≤ k) => (show (k ≠ Q ∧ Off qv k) ∧ k ≠ R ∧ Off wv k from ⟨⟨by have := h.ltQ; omega, fun e => by have := (h.oq.lt k e).2; omega⟩, by have := h.ltR; omega, fun e => by have := (h.ow.lt k e).2; omega⟩))
  clear h hx1 hb hg hq hd0 hd1 hx hop n1 n2 hnm c0 x2 x3 hc
  generalize kid t x.p 0 = k0 at *
  generalize kid t x.p 1 = k1 at *
  generalize ((x.q.den : Nat) : Int) = xd at *
  generalize x.q.num = xn at *
  unfold AcqV
  go_enter Tryz.func83, Tryz.ntmps83
  go_upto_region 1 with fail
  generalize w.alloc (.cells #[.int .i64 (x.p : Nat), .int .i64 x.day, .int .i64 xn, .int .i64 xd] 128) = w1 at *
  have HA1 := Lib.hid (HAs.out _ w1.heap.size (Below.drew (newF w1 _)) (HKn.out.keep (Below.drew (Below.refl _ _))))
  rw [show [k0].length = 1 from rfl] at HA1
  have x1 : w1.drew.cell? ⟨w.heap.size, 1, none⟩ = some (.int .i64 x.day) := x1
  have g0 : w1.drew.cell? ⟨g, 0, none⟩ = some (.int .i64 (k0 : Nat)) := g0
  have x1a : ∀ o, (w1.alloc o).drew.cell? ⟨w.heap.size, 1, none⟩ = some (.int .i64 x.day) := fun o => keepF (Below.drew (newF w1 o)) x1
  have g0a : ∀ o, (w1.alloc o).drew.cell? ⟨g, 0, none⟩ = some (.int .i64 (k0 : Nat)) := fun o => keepF (Below.drew (newF w1 o)) g0
  have HXY := Lib.hid (And.intro (x1a (.cells #[.int .i64 (k0 : Nat)] 3)) (g0a (.cells #[.int .i64 (k0 : Nat)] 3)))
  go_region_held3 (fun w' => w'.cell? ⟨w.heap.size, 1, none⟩ = some (.int .i64 x.day) ∧ w'.cell? ⟨g, 0, none⟩ = some (.int .i64 (k0 : Nat)))
    (first | (with_reducible exact ⟨x1, g0⟩) | (with_reducible exact ⟨x1a _, g0a _⟩))
    ((go_at_call 119; (with_reducible refine HA1.out.mono ?_); rintro e w3 hask; obtain ⟨a, n, c, kn, er, rfl⟩ := hask.shape; have HAk := Lib.hid hask; have x1 := hask.lets.cell HXY.out.1 (HO.out _ (Nat.le_refl _)).2.1 (HO.out _ (Nat.le_refl _)).2.2; have g0 := hask.lets.cell HXY.out.2 HG.out.nR HG.out.ow; clear hask))
  rcases HAk.out with ⟨⟨p, hp, hv⟩, he, hb⟩ | ⟨_, ⟨p, hp, hv⟩, he, hm, hlt⟩ | ⟨rs, vv, hv, he, ho, hb⟩
  · obtain rfl := List.mem_singleton.1 hp
    obtain ⟨_, rfl, rfl⟩ := tup3_inj he
    have HBz := Lib.hid (HX.out.keep (onF (Below.drew (newF w1 _)) hb)).bel
    have HSv := Lib.hid (show stp t (envL lf lc) tu x = none by rw [HSt.out, hv])
    clear hp hv he hb HAk x1 g0
    go_wp2_with fail
    go_ret
    rw [HSv.out]
    exact ⟨rfl, HBz.out⟩
  · obtain rfl := List.mem_singleton.1 hp
    obtain ⟨_, rfl, rfl⟩ := tup3_inj he
    have HM := Lib.hid hm
    have HSv := Lib.hid (show stp t (envL lf lc) tu x = some ([], [], askW t (envL lf lc) x.day p) by rw [HSt.out, hv])
    clear hp hv he hm hlt HAk x1 g0
    go_wp2_with fail
    go_ret
    rw [HSv.out]
    exact ⟨rfl, by simpa using HM.out⟩
  · obtain ⟨hvv, rfl, rfl⟩ := tup3_inj he
    subst hvv
    obtain ⟨r, rfl, hv1⟩ : ∃ r, rs = [r] ∧ vlA t ((envL lf lc).fx x.day) k0 = some (some r) := by
      match rs, hv with
      | [], hv => cases hv
      | [r], hv =>
        injection hv with hv _
        exact ⟨r, rfl, hv⟩
      | r :: r' :: rs, hv => injection hv with _ hv; cases hv
    have hr := HVk.out r hv1
    obtain ⟨g2, gc, hgv, _, _, _, hcl⟩ := ho.at (E := raL) (k := 2) (fun _ => rfl) (by simp)
    injection hgv with e1 e2 e3
    subst e1 e2 e3
    have v0 : w3.cell? ⟨g2, 0, none⟩ = some (.int .i64 r.num) := hcl 0 (by simp) 0 _ (by decide) rfl
    have v1 : w3.cell? ⟨g2, 1, none⟩ = some (.int .i64 ((r.den : Nat) : Int)) := hcl 0 (by simp) 1 _ (by decide) rfl
    have hb3 := onF (Below.drew (newF w1 _)) hb
    have HB3 := Lib.hid hb3
    have x1 := keepF hb3 HXc.out.1
    have x2 := keepF hb3 HXc.out.2.1
    have x3 := keepF hb3 HXc.out.2.2
    have HX3 := Lib.hid (HX.out.keep hb3)
    have HG3 := Lib.hid (HG.out.keep hb3)
    have HMr := Lib.hid (fun w' => HMu.out r hr w')
    have HAr := Lib.hid (fun w' => HAc.out w' (x.q * r))
    have HSv := Lib.hid (show stp t (envL lf lc) tu x = if fitsR (x.q * r) = true then some ([⟨k1, x.day, x.q * r⟩], [], []) else none by rw [HSt.out, hv1])
    clear hv hv1 he hb hb3 ho hcl hr HAk HMu HAc HVk HSt
    generalize ((r.den : Nat) : Int) = rd at *
    generalize r.num = rn at *
    generalize x.q * r = y at *
    go_upto_region 4 with fail
    go_cut [12, 11] (fun u v wx => ∃ Y, u = .pointer (some ⟨Y, 0, none⟩) ∧ v = .int .i64 (rE y) ∧ wx.cell? ⟨Y, 0, none⟩ = some (.int .i64 (rN y)) ∧ wx.cell? ⟨Y, 1, none⟩ = some (.int .i64 (rD y)) ∧ Below w3.heap.size w3 wx ∧ w3.heap.size ≤ Y)
    case first =>
      have b0 : Below w3.heap.size w3 w3.drew := Below.drew (Below.refl _ _)
      have b1 : ∀ o, Below w3.heap.size w3 (w3.alloc o).drew := fun o => Below.drew (newF w3 o)
      have HRc := Lib.hid (And.intro x2 (And.intro x3 (And.intro v0 v1)))
      have HLt := Lib.hid (And.intro (ltF x2) (ltF v0))
      have kd0 : w3.drew.cell? ⟨w.heap.size, 2, none⟩ = some (.int .i64 xn) := x2
      have kd1 : w3.drew.cell? ⟨w.heap.size, 3, none⟩ = some (.int .i64 xd) := x3
      have kd2 : w3.drew.cell? ⟨g2, 0, none⟩ = some (.int .i64 rn) := v0
      have kd3 : w3.drew.cell? ⟨g2, 1, none⟩ = some (.int .i64 rd) := v1
      have ka0 : ∀ o, (w3.alloc o).drew.cell? ⟨w.heap.size, 2, none⟩ = some (.int .i64 xn) := fun o => keepF (Below.drew (newF w3 o)) x2
      have ka1 : ∀ o, (w3.alloc o).drew.cell? ⟨w.heap.size, 3, none⟩ = some (.int .i64 xd) := fun o => keepF (Below.drew (newF w3 o)) x3
      have ka2 : ∀ o, (w3.alloc o).drew.cell? ⟨g2, 0, none⟩ = some (.int .i64 rn) := fun o => keepF (Below.drew (newF w3 o)) v0
      have ka3 : ∀ o, (w3.alloc o).drew.cell? ⟨g2, 1, none⟩ = some (.int .i64 rd) := fun o => keepF (Below.drew (newF w3 o)) v1
      clear x1 g0 x2 x3 v0 v1
      go_region_held3 (fun w' => w'.cell? ⟨w.heap.size, 2, none⟩ = some (.int .i64 xn) ∧ w'.cell? ⟨w.heap.size, 3, none⟩ = some (.int .i64 xd) ∧ w'.cell? ⟨g2, 0, none⟩ = some (.int .i64 rn) ∧ w'.cell? ⟨g2, 1, none⟩ = some (.int .i64 rd))
        (first | (with_reducible exact ⟨kd0, kd1, kd2, kd3⟩) | (with_reducible exact ⟨ka0 _, ka1 _, ka2 _, ka3 _⟩) | (with_reducible exact ⟨k0, k1, k2, k3⟩) | (with_reducible exact ⟨keepF (newF _ _) k0, keepF (newF _ _) k1, keepF (newF _ _) k2, keepF (newF _ _) k3⟩) | (with_reducible exact ⟨setB (setB k0 (.inl (Nat.ne_of_gt HLt.out.1))) (.inl (Nat.ne_of_gt HLt.out.1)), setB (setB k1 (.inl (Nat.ne_of_gt HLt.out.1))) (.inl (Nat.ne_of_gt HLt.out.1)), setB (setB k2 (.inl (Nat.ne_of_gt HLt.out.2))) (.inl (Nat.ne_of_gt HLt.out.2)), setB (setB k3 (.inl (Nat.ne_of_gt HLt.out.2))) (.inl (Nat.ne_of_gt HLt.out.2))⟩))
        ((go_at_call 120; (with_reducible refine (HMr.out _).mono ?_); rintro e w4 ⟨rfl, hb4⟩; (first | (have HB4 : Hid (Below w3.heap.size w3 w4) := Lib.hid (onF b0 hb4)) | (have HB4 : Hid (Below w3.heap.size w3 w4) := Lib.hid (onF (b1 _) hb4); obtain ⟨u0, u1, z0, z1⟩ := zero_at2x hb4)); clear hb4; have k0 := keepF HB4.out HRc.out.1; have k1 := keepF HB4.out HRc.out.2.1; have k2 := keepF HB4.out HRc.out.2.2.1; have k3 := keepF HB4.out HRc.out.2.2.2))
      all_goals go_wp2
      all_goals go_meet
      all_goals first
        | exact ⟨_, rfl, rfl, by rw [World.cell?_alloc_at _ _ _ _ rfl]; rfl, by rw [World.cell?_alloc_at _ _ _ _ rfl]; rfl, onF HB4.out (newF _ _), HB4.out.size⟩
        | exact ⟨_, rfl, rfl, setB (cell_same u0) (.inr (by decide)), cell_same (setB u1 (.inr (by decide))), Below.setCell (Below.setCell HB4.out (Nat.le_refl _) _) (Nat.le_refl _) _, Nat.le_refl _⟩
    case rest =>
      obtain ⟨Y, rfl, rfl, u0, u1, hbc, hY⟩ := hcut
      have HX4 := Lib.hid (HX3.out.keep hbc)
      have HG4 := Lib.hid (HG3.out.keep hbc)
      have HY := Lib.hid (Nat.le_trans HB1.out.size (Nat.le_trans HB3.out.size hY))
      have x1 := keepF hbc x1
      have g1 := HG4.out.c 1 (by simp)
      change _ = some (Value.int .i64 (k1 : Nat)) at g1
      clear x2 x3 v0 v1 hbc hY HG3 HX3 g0 HMr
      cases hf : fitsR y with
      | false =>
        obtain ⟨e1, e2, e3⟩ := fit_out hf
        have HSw := Lib.hid (show stp t (envL lf lc) tu x = none by rw [HSv.out, if_neg (by rw [hf]; decide)])
        rw [e1] at u0
        rw [e2] at u1
        rw [e3]
        clear hf e1 e2 e3
        go_wp2_with fail
        go_ret
        rw [HSw.out]
        exact ⟨rfl, HX4.out.bel⟩
      | true =>
        obtain ⟨e1, e2, e3⟩ := fit_in hf
        have HSw : Hid (∃ ts, stp t (envL lf lc) tu x = some (ts, [], []) ∧ ts.flatMap (acqL tu) = acqL tu ⟨k1, x.day, y⟩) := Lib.hid ⟨[⟨k1, x.day, y⟩], by rw [HSv.out, if_pos hf], by simp⟩
        rw [e1] at u0
        rw [e2] at u1
        rw [e3]
        have HA4 := Lib.hid (HAr.out wc.drew (HX4.out.keep (Below.drew (Below.refl _ _))))
        clear hf e1 e2 e3 HAr
        generalize acqL tu ⟨k1, x.day, y⟩ = al at *
        go_upto_region 7 with fail
        have g1 : wc.drew.cell? ⟨g, 1, none⟩ = some (.int .i64 (k1 : Nat)) := g1
        have x1 : wc.drew.cell? ⟨w.heap.size, 1, none⟩ = some (.int .i64 x.day) := x1
        have u0 : wc.drew.cell? ⟨Y, 0, none⟩ = some (.int .i64 y.num) := u0
        have u1 : wc.drew.cell? ⟨Y, 1, none⟩ = some (.int .i64 ((y.den : Nat) : Int)) := u1
        go_region_held3 (fun w' => w'.cell? ⟨g, 1, none⟩ = some (.int .i64 (k1 : Nat)) ∧ w'.cell? ⟨w.heap.size, 1, none⟩ = some (.int .i64 x.day) ∧ w'.cell? ⟨Y, 0, none⟩ = some (.int .i64 y.num) ∧ w'.cell? ⟨Y, 1, none⟩ = some (.int .i64 ((y.den : Nat) : Int)))
          (first | (with_reducible exact ⟨g1, x1, u0, u1⟩))
          ((go_at_call 50; refine (HA4.out).mono ?_; rintro e w5 ⟨rfl, qv', hr, hlet, _⟩; have HR5 := Lib.hid hr; have g1 := hlet.cell g1 HG4.out.nQ HG4.out.oq; have x1 := hlet.cell x1 (HO.out _ (Nat.le_refl _)).1.1 (HO.out _ (Nat.le_refl _)).1.2; have u0 := hlet.cell u0 (HO.out _ HY.out).1.1 (HO.out _ HY.out).1.2; have u1 := hlet.cell u1 (HO.out _ HY.out).1.1 (HO.out _ HY.out).1.2; clear hr hlet))
        go_wp2_with fail
        go_ret
        obtain ⟨ts, h1, h2⟩ := HSw.out
        rw [h1]
        exact ⟨rfl, by rw [h2, List.append_nil, List.append_nil]; exact ⟨_, _, _, HR5.out⟩⟩

end Go.Proofs.YtgeneoamngfomaaGreatDoor

namespace Go.Proofs.YtgeneoamngfomaaGreatDoor
open Go.RowKit Go.Lib Go.Maps
set_option linter.unusedVariables false
set_option linter.unusedSimpArgs false

theorem cmp_fit {p q : Rat} (hp : fitsR p = true) (hq : fitsR q = true) (w : World) : Calls Tryz.prog 121 #[.agg #[.int .i64 p.num, .int .i64 ((p.den : Nat) : Int)], .agg #[.int .i64 q.num, .int .i64 ((q.den : Nat) : Int)]] w fun e w' => e = .returned (.tuple #[.int .i64 (if p < q then -1 else if q < p then 1 else 0), .int .i64 0]) ∧ Below w.heap.size w w' := by
  obtain ⟨a1, a2, a3, a4⟩ := limQ hp
  obtain ⟨b1, b2, b3, b4⟩ := limQ hq
  have h := compare_anyR p.num ((p.den : Nat) : Int) q.num ((q.den : Nat) : Int) w a1 a2 a3 a4 b1 b2 b3 b4
  have e : bothE p.num ((p.den : Nat) : Int) q.num ((q.den : Nat) : Int) = 0 := by
    unfold bothE
    rw [chkQ hp, chkQ hq]; rfl
  rw [if_pos e, e, cmp_q] at h
  exact h
set_option maxRecDepth 100000 in
set_option maxHeartbeats 4000000 in
theorem decide_any {w0 w : World} {R Z Q : Nat} {tv : Value} {tu : Int} {B bf bc nn : Nat} {Df Dc : DataW Unit} {lf lc : List Fct} {t : List Nd} (hc : CtxD w0 t tv B bf bc nn Df Dc lf lc) {qv fv wv : Value} {td : List Td} {fl : List Flw} {ws : List Wat} (h : RdR w0 w R Z Q tv tu B qv fv wv td fl ws)
    (hl : td.length ≤ 1000) (hlw : ws.length ≤ 40000) (x : Td) (hx : CtA t x.p) (hop : opA t x.p = 15) (hq : fitsR x.q = true) (hd0 : 0 ≤ x.day) (hd1 : x.day ≤ 73048) (g cap : Nat) (hcap : 4 ≤ cap) (hg : BlS w R Q qv wv g [kid t x.p 0, kid t x.p 1, kid t x.p 2, kid t x.p 3]) :
    Calls Tryz.prog 84 #[.pointer (some ⟨R, 0, none⟩), .agg #[.int .i64 (x.p : Nat), .int .i64 x.day, .int .i64 x.q.num, .int .i64 ((x.q.den : Nat) : Int)], .slice (some ⟨g, 0, none⟩) 4 cap, AcqV Z Q] w fun e w' => DoP w0 R Z Q tv tu B td fl ws e w' (stp t (envL lf lc) tu x) := by
  obtain ⟨n1, n2, _, _⟩ := kid_any hc.ok hx.lt (i := 0) (by rw [hop]; decide)
  obtain ⟨m1, m2, _, _⟩ := kid_any hc.ok hx.lt (i := 1) (by rw [hop]; decide)
  have hnm : mkO (opA t (kid t x.p 0)) = 1 := n2.trans (by rw [hop]; decide)
  have hnn : mkO (opA t (kid t x.p 1)) = 1 := m2.trans (by rw [hop]; decide)
  have HSt := Lib.hid (stp_cond (t := t) (E := envL lf lc) (tu := tu) (x := x) hop)
  have HVk := Lib.hid (fun r hr => vl_ok (day := x.day) (r := r) hc n1 hnm hr)
  have HVj := Lib.hid (fun r hr => vl_ok (day := x.day) (r := r) hc m1 hnn hr)
  have hb := newF w (.cells #[.int .i64 (x.p : Nat), .int .i64 x.day, .int .i64 x.q.num, .int .i64 ((x.q.den : Nat) : Int)] 128)
  have hx1 := h.keep hb
  have HAs := Lib.hid (fun (W : World) (pg : Nat) (hb' : Below (w.alloc (.cells #[.int .i64 (x.p : Nat), .int .i64 x.day, .int .i64 x.q.num, .int .i64 ((x.q.den : Nat) : Int)] 128)).heap.size (w.alloc (.cells #[.int .i64 (x.p : Nat), .int .i64 x.day, .int .i64 x.q.num, .int .i64 ((x.q.den : Nat) : Int)] 128)) W) (hk : KyS W R wv pg [((kid t x.p 0 : Nat) : Int), ((kid t x.p 1 : Nat) : Int)]) => ask_any hc (hx1.keep hb') [kid t x.p 0, kid t x.p 1] (by simp; omega) (fun p hp => by
    rcases List.mem_cons.1 hp with rfl | hp
    · exact ⟨n1, hnm⟩
    · obtain rfl := List.mem_singleton.1 hp; exact ⟨m1, hnn⟩) pg 2 (by simp) hk x.day hd0 hd1)
  have HKn := Lib.hid (kys_new hx1.ltR (fun k e => (hx1.ow.lt k e).2) [((kid t x.p 0 : Nat) : Int), ((kid t x.p 1 : Nat) : Int)] #[.int .i64 (kid t x.p 0 : Nat), .int .i64 (kid t x.p 1 : Nat)] (fun j hj => by
    have hj' : j < 2 := hj
    rcases (show j = 0 ∨ j = 1 by omega) with rfl | rfl <;> rfl) 3)
  have HCm := Lib.hid (fun (r s : Rat) (hr : fitsR r = true) (hs : fitsR s = true) (w' : World) => cmp_fit hr hs w')
  have HAc := Lib.hid (fun (k : Nat) (w' : World) (h' : RdR w0 w' R Z Q tv tu B qv fv wv td fl ws) => acq_any h' hl ⟨k, x.day, x.q⟩ (k : Nat) x.q.num ((x.q.den : Nat) : Int) rfl rfl rfl x.day rfl)
  have c0 : ∀ k v, (#[.int .i64 (x.p : Nat), .int .i64 x.day, .int .i64 x.q.num, .int .i64 ((x.q.den : Nat) : Int)] : Array Value)[k]? = some v → (w.alloc (.cells #[.int .i64 (x.p : Nat), .int .i64 x.day, .int .i64 x.q.num, .int .i64 ((x.q.den : Nat) : Int)] 128)).cell? ⟨w.heap.size, k, none⟩ = some v := fun k v hv => by rw [World.cell?_alloc_at _ _ _ _ rfl]; exact hv
  have x0 := c0 0 (.int .i64 (x.p : Nat)) rfl
  have x1 := c0 1 (.int .i64 x.day) rfl
  have x2 := c0 2 (.int .i64 x.q.num) rfl
  have x3 := c0 3 (.int .i64 ((x.q.den : Nat) : Int)) rfl
  have HX := Lib.hid hx1
  have HB1 := Lib.hid hb
  have HG := Lib.hid (hg.keep hb)
  have g0 := HG.out.c 0 (by simp)
  have g1 := HG.out.c 1 (by simp)
  change _ = some (Value.int .i64 (kid t x.p 0 : Nat)) at g0
  change _ = some (Value.int .i64 (kid t x.p 1 : Nat)) at g1
  have HXc := Lib.hid (And.intro x0 (And.intro x1 (And.intro x2 x3)))
  have HO := Lib.hid (fun (k : Nat) (hk : w.heap.size ≤ k) => (show (k ≠ Q ∧ Off qv k) ∧ k ≠ R ∧ Off wv k from ⟨⟨by have := h.ltQ; omega, fun e => by have := (h.oq.lt k e).2; omega⟩, by have := h.ltR; omega, fun e => by have := (h.ow.lt k e).2; omega⟩))
  clear h hx1 hb hg hq hd0 hd1 hx hop n1 n2 m1 m2 hnm hnn c0 x0 x2 x3 hc
  generalize kid t x.p 0 = k0 at *
  generalize kid t x.p 1 = k1 at *
  have HIf : Hid (∀ (v u : Rat), kid t x.p (if v < u then 2 else 3) = if v < u then kid t x.p 2 else kid t x.p 3) := Lib.hid (fun v u => by
    by_cases f : v < u
    · rw [if_pos f, if_pos f]
    · rw [if_neg f, if_neg f])
  generalize kid t x.p 2 = k2 at *
  generalize kid t x.p 3 = k3 at *
  generalize ((x.q.den : Nat) : Int) = xd at *
  generalize x.q.num = xn at *
  unfold AcqV
  go_enter Tryz.func84, Tryz.ntmps84
  go_upto_region 1 with fail
  generalize w.alloc (.cells #[.int .i64 (x.p : Nat), .int .i64 x.day, .int .i64 xn, .int .i64 xd] 128) = w1 at *
  have HA1 := Lib.hid (HAs.out _ w1.heap.size (Below.drew (newF w1 _)) (HKn.out.keep (Below.drew (Below.refl _ _))))
  rw [show [k0, k1].length = 2 from rfl] at HA1
  have x1 : w1.drew.cell? ⟨w.heap.size, 1, none⟩ = some (.int .i64 x.day) := x1
  have g0 : w1.drew.cell? ⟨g, 0, none⟩ = some (.int .i64 (k0 : Nat)) := g0
  have g1 : w1.drew.cell? ⟨g, 1, none⟩ = some (.int .i64 (k1 : Nat)) := g1
  have x1a : ∀ o, (w1.alloc o).drew.cell? ⟨w.heap.size, 1, none⟩ = some (.int .i64 x.day) := fun o => keepF (Below.drew (newF w1 o)) x1
  have g0a : ∀ o, (w1.alloc o).drew.cell? ⟨g, 0, none⟩ = some (.int .i64 (k0 : Nat)) := fun o => keepF (Below.drew (newF w1 o)) g0
  have g1a : ∀ o, (w1.alloc o).drew.cell? ⟨g, 1, none⟩ = some (.int .i64 (k1 : Nat)) := fun o => keepF (Below.drew (newF w1 o)) g1
  have HXY := Lib.hid (And.intro (x1a (.cells #[.int .i64 (k0 : Nat), .int .i64 (k1 : Nat)] 3)) (And.intro (g0a (.cells #[.int .i64 (k0 : Nat), .int .i64 (k1 : Nat)] 3)) (g1a (.cells #[.int .i64 (k0 : Nat), .int .i64 (k1 : Nat)] 3))))
  go_region_held3 (fun w' => w'.cell? ⟨w.heap.size, 1, none⟩ = some (.int .i64 x.day) ∧ w'.cell? ⟨g, 0, none⟩ = some (.int .i64 (k0 : Nat)) ∧ w'.cell? ⟨g, 1, none⟩ = some (.int .i64 (k1 : Nat)))
    (first | (with_reducible exact ⟨x1, g0, g1⟩) | (with_reducible exact ⟨x1a _, g0a _, g1a _⟩))
    ((go_at_call 119; (with_reducible refine HA1.out.mono ?_); rintro e w3 hask; obtain ⟨a, n, c, kn, er, rfl⟩ := hask.shape; have HAk := Lib.hid hask; have x1 := hask.lets.cell HXY.out.1 (HO.out _ (Nat.le_refl _)).2.1 (HO.out _ (Nat.le_refl _)).2.2; have g0 := hask.lets.cell HXY.out.2.1 HG.out.nR HG.out.ow; have g1 := hask.lets.cell HXY.out.2.2 HG.out.nR HG.out.ow; clear hask))
  rcases HAk.out with ⟨⟨p, hp, hv⟩, he, hb⟩ | ⟨hn, ⟨p, hp, hv⟩, he, hm, hlt⟩ | ⟨rs, vv, hv, he, ho, hb⟩
  · obtain ⟨_, rfl, rfl⟩ := tup3_inj he
    have HBz := Lib.hid (HX.out.keep (onF (Below.drew (newF w1 _)) hb)).bel
    have HSv := Lib.hid (show stp t (envL lf lc) tu x = none by
      rw [HSt.out]
      rcases List.mem_cons.1 hp with rfl | hp
      · rw [hv]
      · obtain rfl := List.mem_singleton.1 hp
        rw [hv]
        cases vlA t ((envL lf lc).fx x.day) k0 with
        | none => rfl
        | some v => cases v <;> rfl)
    clear hp hv he hb HAk x1 g0 g1
    go_wp2_with fail
    go_ret
    rw [HSv.out]
    exact ⟨rfl, HBz.out⟩
  · obtain ⟨_, rfl, rfl⟩ := tup3_inj he
    have HM := Lib.hid hm
    have HSv := Lib.hid (show stp t (envL lf lc) tu x = some ([], [], askW t (envL lf lc) x.day k0 ++ askW t (envL lf lc) x.day k1) by
      rw [HSt.out]
      have h0 := hn k0 (by simp)
      have h1 := hn k1 (by simp)
      rcases List.mem_cons.1 hp with rfl | hp
      · rw [hv]
        cases hu : vlA t ((envL lf lc).fx x.day) k1 with
        | none => exact absurd hu h1
        | some u => cases u <;> rfl
      · obtain rfl := List.mem_singleton.1 hp
        rw [hv]
        cases hu : vlA t ((envL lf lc).fx x.day) k0 with
        | none => exact absurd hu h0
        | some u => cases u <;> rfl)
    clear hp hn hv he hm hlt HAk x1 g0 g1
    go_wp2_with fail
    go_ret
    rw [HSv.out]
    exact ⟨rfl, by simpa using HM.out⟩
  · obtain ⟨hvv, rfl, rfl⟩ := tup3_inj he
    subst hvv
    obtain ⟨r, s, rfl, hv1, hv2⟩ : ∃ r s, rs = [r, s] ∧ vlA t ((envL lf lc).fx x.day) k0 = some (some r) ∧ vlA t ((envL lf lc).fx x.day) k1 = some (some s) := by
      match rs, hv with
      | [], hv => cases hv
      | [r], hv => injection hv with _ hv; cases hv
      | [r, s], hv =>
        injection hv with hv1 hv
        injection hv with hv2 _
        exact ⟨r, s, rfl, hv1, hv2⟩
      | r :: r' :: r'' :: rs, hv => injection hv with _ hv; injection hv with _ hv; cases hv
    have hr := HVk.out r hv1
    have hs := HVj.out s hv2
    obtain ⟨g2, gc, hgv, _, _, _, hcl⟩ := ho.at (E := raL) (k := 2) (fun _ => rfl) (by simp)
    injection hgv with e1 e2 e3
    subst e1 e2 e3
    have v0 : w3.drew.cell? ⟨g2, 0, none⟩ = some (.int .i64 r.num) := hcl 0 (by simp) 0 _ (by decide) rfl
    have v1 : w3.drew.cell? ⟨g2, 1, none⟩ = some (.int .i64 ((r.den : Nat) : Int)) := hcl 0 (by simp) 1 _ (by decide) rfl
    have v2 : w3.drew.cell? ⟨g2, 2, none⟩ = some (.int .i64 s.num) := hcl 1 (by simp) 0 _ (by decide) rfl
    have v3 : w3.drew.cell? ⟨g2, 3, none⟩ = some (.int .i64 ((s.den : Nat) : Int)) := hcl 1 (by simp) 1 _ (by decide) rfl
    have hb3 := onF (Below.drew (newF w1 _)) hb
    have HB3 := Lib.hid hb3
    have HX3 := Lib.hid (HX.out.keep hb3)
    have HG3 := Lib.hid (HG.out.keep hb3)
    have HXc3 := Lib.hid (And.intro (keepF hb3 HXc.out.1) (And.intro (keepF hb3 HXc.out.2.1) (And.intro (keepF hb3 HXc.out.2.2.1) (keepF hb3 HXc.out.2.2.2))))
    have HCr := Lib.hid (fun w' => HCm.out r s hr hs w')
    have HSv : Hid (stp t (envL lf lc) tu x = some ([⟨if r < s then k2 else k3, x.day, x.q⟩], [], [])) := Lib.hid (by rw [HSt.out, hv1, hv2, ← HIf.out])
    have hsc : (if r < s then (-1 : Int) else if s < r then 1 else 0) < 0 ↔ r < s := by
      by_cases f : r < s
      · rw [if_pos f]; exact ⟨fun _ => f, fun _ => by decide⟩
      · rw [if_neg f]
        refine ⟨fun h => ?_, fun h => absurd h f⟩
        by_cases f2 : s < r
        · rw [if_pos f2] at h; omega
        · rw [if_neg f2] at h; omega
    have HSc := Lib.hid hsc
    clear hv hv1 hv2 he hb hb3 ho hcl hr hs HAk HCm HVk HVj HSt hsc x1 g0 g1 HXc
    generalize (if r < s then (-1 : Int) else if s < r then 1 else 0) = ord at *
    generalize ((r.den : Nat) : Int) = rd at *
    generalize r.num = rn at *
    generalize ((s.den : Nat) : Int) = sd at *
    generalize s.num = sn at *
    go_upto_region 4 with fail
    go_region_held3 (fun w' => w'.cell? ⟨g2, 0, none⟩ = some (.int .i64 rn) ∧ w'.cell? ⟨g2, 1, none⟩ = some (.int .i64 rd) ∧ w'.cell? ⟨g2, 2, none⟩ = some (.int .i64 sn) ∧ w'.cell? ⟨g2, 3, none⟩ = some (.int .i64 sd))
      (first | (with_reducible exact ⟨v0, v1, v2, v3⟩))
      ((go_at_call 121; (with_reducible refine (HCr.out _).mono ?_); rintro e w4 ⟨rfl, hb4⟩; have HB4 : Hid (Below w3.heap.size w3 w4) := Lib.hid (onF (Below.drew (Below.refl _ _)) hb4); have v0 := keepF hb4 v0; have v1 := keepF hb4 v1; have v2 := keepF hb4 v2; have v3 := keepF hb4 v3; clear hb4))
    have HX4 := Lib.hid (HX3.out.keep HB4.out)
    have HG4 := Lib.hid (HG3.out.keep HB4.out)
    have HW := Lib.hid (Nat.le_trans HB1.out.size (Nat.le_trans HB3.out.size HB4.out.size))
    have x0 : w4.drew.cell? ⟨w.heap.size, 0, none⟩ = some (.int .i64 (x.p : Nat)) := keepF (Below.drew HB4.out) HXc3.out.1
    have x1 : w4.drew.cell? ⟨w.heap.size, 1, none⟩ = some (.int .i64 x.day) := keepF (Below.drew HB4.out) HXc3.out.2.1
    have x2 : w4.drew.cell? ⟨w.heap.size, 2, none⟩ = some (.int .i64 xn) := keepF (Below.drew HB4.out) HXc3.out.2.2.1
    have x3 : w4.drew.cell? ⟨w.heap.size, 3, none⟩ = some (.int .i64 xd) := keepF (Below.drew HB4.out) HXc3.out.2.2.2
    have HIn := Lib.hid (fun (w' : World) (i : Int) => instead_any w' (x.p : Nat) x.day xn xd i)
    clear v0 v1 v2 v3 HB4 HX3 HG3 HXc3 HCr
    by_cases ho : ord < 0
    · have hrs := HSc.out.1 ho
      have HSw : Hid (∃ ts, stp t (envL lf lc) tu x = some (ts, [], []) ∧ ts.flatMap (acqL tu) = acqL tu ⟨k2, x.day, x.q⟩) := Lib.hid ⟨_, HSv.out, by rw [if_pos hrs]; simp⟩
      have g2' : w4.drew.cell? ⟨g, 2, none⟩ = some (.int .i64 (k2 : Nat)) := HG4.out.c 2 (by simp)
      have HA4 := Lib.hid (fun w' (hb : Below w4.heap.size w4 w') => HAc.out k2 w' (HX4.out.keep hb))
      clear hrs HSv HAc HSc
      generalize acqL tu ⟨k2, x.day, x.q⟩ = al at *
      go_upto_region 8 with fail
      go_region_held3 (fun w' => w'.cell? ⟨g, 2, none⟩ = some (.int .i64 (k2 : Nat)) ∧ w'.cell? ⟨w.heap.size, 0, none⟩ = some (.int .i64 (x.p : Nat)) ∧ w'.cell? ⟨w.heap.size, 1, none⟩ = some (.int .i64 x.day) ∧ w'.cell? ⟨w.heap.size, 2, none⟩ = some (.int .i64 xn) ∧ w'.cell? ⟨w.heap.size, 3, none⟩ = some (.int .i64 xd))
        (first | (with_reducible exact ⟨g2', x0, x1, x2, x3⟩))
        (first
          | (go_at_call 82; (with_reducible refine (HIn.out _ _).mono ?_); rintro e w5 ⟨rfl, hb5⟩; have HA5 := Lib.hid (HA4.out w5 (onF (Below.drew (Below.refl _ _)) hb5)); have g2' := keepF hb5 g2'; have x0 := keepF hb5 x0; have x1 := keepF hb5 x1; have x2 := keepF hb5 x2; have x3 := keepF hb5 x3; clear hb5)
          | (go_at_call 50; refine (HA5.out).mono ?_; rintro e w6 ⟨rfl, qv', hr, hlet, _⟩; have HR5 := Lib.hid hr; have g2' := hlet.cell g2' HG4.out.nQ HG4.out.oq; have x0 := hlet.cell x0 (HO.out _ (Nat.le_refl _)).1.1 (HO.out _ (Nat.le_refl _)).1.2; have x1 := hlet.cell x1 (HO.out _ (Nat.le_refl _)).1.1 (HO.out _ (Nat.le_refl _)).1.2; have x2 := hlet.cell x2 (HO.out _ (Nat.le_refl _)).1.1 (HO.out _ (Nat.le_refl _)).1.2; have x3 := hlet.cell x3 (HO.out _ (Nat.le_refl _)).1.1 (HO.out _ (Nat.le_refl _)).1.2; clear hr hlet))
      go_wp2_with fail
      go_ret
      obtain ⟨ts, h1, h2⟩ := HSw.out
      rw [h1]
      exact ⟨rfl, by rw [h2, List.append_nil, List.append_nil]; exact ⟨_, _, _, HR5.out⟩⟩
    · have hrs : ¬ r < s := fun h => ho (HSc.out.2 h)
      have HSw : Hid (∃ ts, stp t (envL lf lc) tu x = some (ts, [], []) ∧ ts.flatMap (acqL tu) = acqL tu ⟨k3, x.day, x.q⟩) := Lib.hid ⟨_, HSv.out, by rw [if_neg hrs]; simp⟩
      have g2' : w4.drew.cell? ⟨g, 3, none⟩ = some (.int .i64 (k3 : Nat)) := HG4.out.c 3 (by simp)
      have HA4 := Lib.hid (fun w' (hb : Below w4.heap.size w4 w') => HAc.out k3 w' (HX4.out.keep hb))
      clear hrs HSv HAc HSc
      generalize acqL tu ⟨k3, x.day, x.q⟩ = al at *
      go_upto_region 9 with fail
      go_region_held3 (fun w' => w'.cell? ⟨g, 3, none⟩ = some (.int .i64 (k3 : Nat)) ∧ w'.cell? ⟨w.heap.size, 0, none⟩ = some (.int .i64 (x.p : Nat)) ∧ w'.cell? ⟨w.heap.size, 1, none⟩ = some (.int .i64 x.day) ∧ w'.cell? ⟨w.heap.size, 2, none⟩ = some (.int .i64 xn) ∧ w'.cell? ⟨w.heap.size, 3, none⟩ = some (.int .i64 xd))
        (first | (with_reducible exact ⟨g2', x0, x1, x2, x3⟩))
        (first
          | (go_at_call 82; (with_reducible refine (HIn.out _ _).mono ?_); rintro e w5 ⟨rfl, hb5⟩; have HA5 := Lib.hid (HA4.out w5 (onF (Below.drew (Below.refl _ _)) hb5)); have g2' := keepF hb5 g2'; have x0 := keepF hb5 x0; have x1 := keepF hb5 x1; have x2 := keepF hb5 x2; have x3 := keepF hb5 x3; clear hb5)
          | (go_at_call 50; refine (HA5.out).mono ?_; rintro e w6 ⟨rfl, qv', hr, hlet, _⟩; have HR5 := Lib.hid hr; have g2' := hlet.cell g2' HG4.out.nQ HG4.out.oq; have x0 := hlet.cell x0 (HO.out _ (Nat.le_refl _)).1.1 (HO.out _ (Nat.le_refl _)).1.2; have x1 := hlet.cell x1 (HO.out _ (Nat.le_refl _)).1.1 (HO.out _ (Nat.le_refl _)).1.2; have x2 := hlet.cell x2 (HO.out _ (Nat.le_refl _)).1.1 (HO.out _ (Nat.le_refl _)).1.2; have x3 := hlet.cell x3 (HO.out _ (Nat.le_refl _)).1.1 (HO.out _ (Nat.le_refl _)).1.2; clear hr hlet))
      go_wp2_with fail
      go_ret
      obtain ⟨ts, h1, h2⟩ := HSw.out
      rw [h1]
      exact ⟨rfl, by rw [h2, List.append_nil, List.append_nil]; exact ⟨_, _, _, HR5.out⟩⟩

end Go.Proofs.YtgeneoamngfomaaGreatDoor

namespace Go.Proofs.YtgeneoamngfomaaGreatDoor
open Go.RowKit Go.Lib Go.Maps
set_option linter.unusedVariables false
set_option linter.unusedSimpArgs false

theorem choice_l (w : World) {B bf bc n : Nat} {Df Dc : DataW Unit} (h : FacM w B bf bc n Df Dc) {lf lc : List Fct} (hr : RelV vI Dc lc) (k d : Int) (hk : I64 k) (hd : I64 d) :
    Calls Tryz.prog 122 #[.pointer (some ⟨B, 0, none⟩), .int .i64 k, .int .i64 d] w fun e w' => (∃ b, e = .returned (.tuple #[.int .i64 ((envL lf lc).ch k d), .bool b])) ∧ Below w.heap.size w w' := by
  refine (choice_any w h k d hk hd).mono ?_
  rintro e w' ⟨x, rfl, hx, hb⟩
  obtain ⟨g1, g2⟩ := know_getE hr hk hd (intD 0)
  refine ⟨⟨Maps.has Dc (plk k d), ?_⟩, hb⟩
  · have e : x = (envL lf lc).ch k d := by
      show x = match lc.find? (isG k d) with | some t => t.p | none => 0
      cases hf : lc.find? (isG k d) with
      | none =>
        have := (g2 hf).2
        rw [this] at hx
        exact (intD_inj hx).symm
      | some t =>
        have := (g1 t hf).2
        rw [this] at hx
        exact (intD_inj hx).symm
    rw [e]
theorem first_l (w : World) {B bf bc n : Nat} {Df Dc : DataW Unit} (h : FacM w B bf bc n Df Dc) {lf lc : List Fct} (hr : RelV vI Dc lc) (k f u : Int) (hk : I64 k) :
    Calls Tryz.prog 86 #[.pointer (some ⟨B, 0, none⟩), .int .i64 k, .int .i64 f, .int .i64 u, .int .i64 1] w fun e w' => (match (envL lf lc).fs k f u with | some d => e = .returned (.tuple #[.int .i64 d, .bool true]) | none => e = .returned (.tuple #[.int .i64 0, .bool false])) ∧ Below w.heap.size w w' := by
  refine (ffirst_any w h k f u 1).mono ?_
  rintro e w' ⟨ps, d, is, rfl, ha, hf, hb⟩
  obtain ⟨g1, g2⟩ := know_first hr ha hk hf
  refine ⟨?_, hb⟩
  show match (lc.find? (isH k f u 1)).map (fun t => t.d) with | some d' => _ | none => _
  cases hl : lc.find? (isH k f u 1) with
  | none =>
    obtain ⟨rfl, rfl⟩ := g2 hl
    rfl
  | some t =>
    obtain ⟨rfl, rfl⟩ := g1 t hl
    rfl
theorem env_pick {w : World} {t : List Nd} {tv : Value} {B bf bc nn : Nat} {Df Dc : DataW Unit} {lf lc : List Fct} (h : CtxD w t tv B bf bc nn Df Dc lf lc) (k d : Int) : (envL lf lc).ch k d = 0 ∨ (envL lf lc).ch k d = 1 ∨ (envL lf lc).ch k d = 2 := by
  show (match lc.find? (isG k d) with | some t => t.p | none => 0) = 0 ∨ (match lc.find? (isG k d) with | some t => t.p | none => 0) = 1 ∨ (match lc.find? (isG k d) with | some t => t.p | none => 0) = 2
  cases hf : lc.find? (isG k d) with
  | none => exact .inl rfl
  | some x => exact .inr (h.oc x (List.mem_of_find?_eq_some hf))
set_option maxRecDepth 100000 in
set_option maxHeartbeats 4000000 in
theorem choose_any {w0 w : World} {R Z Q : Nat} {tv : Value} {tu : Int} {B bf bc nn : Nat} {Df Dc : DataW Unit} {lf lc : List Fct} {t : List Nd} (hc : CtxD w0 t tv B bf bc nn Df Dc lf lc) {qv fv wv : Value} {td : List Td} {fl : List Flw} {ws : List Wat} (h : RdR w0 w R Z Q tv tu B qv fv wv td fl ws)
    (hl : td.length ≤ 1000) (hlw : ws.length ≤ 40000) (x : Td) (hop : opA t x.p = 16) (hd : I64 x.day) (hk : I64 (aA t x.p)) (g cap : Nat) (hcap : 2 ≤ cap) (hg : BlS w R Q qv wv g [kid t x.p 0, kid t x.p 1]) :
    Calls Tryz.prog 85 #[.pointer (some ⟨R, 0, none⟩), .agg #[.int .i64 (x.p : Nat), .int .i64 x.day, .int .i64 x.q.num, .int .i64 ((x.q.den : Nat) : Int)], .int .i64 (aA t x.p), .slice (some ⟨g, 0, none⟩) 2 cap, AcqV Z Q] w fun e w' => e = .returned (.tuple #[]) ∧ ∃ ts ws', stp t (envL lf lc) tu x = some (ts, [], ws') ∧ DnM w0 w' R Z Q tv tu B (td ++ ts.flatMap (acqL tu)) fl (ws ++ ws') := by
  have HSt := Lib.hid (stp_or (t := t) (E := envL lf lc) (tu := tu) (x := x) hop)
  have hpk := env_pick hc (aA t x.p) x.day
  have hb := newF w (.cells #[.int .i64 (x.p : Nat), .int .i64 x.day, .int .i64 x.q.num, .int .i64 ((x.q.den : Nat) : Int)] 128)
  have hx1 := h.keep hb
  have HCh := Lib.hid (fun (w' : World) (hb' : Below (w.alloc (.cells #[.int .i64 (x.p : Nat), .int .i64 x.day, .int .i64 x.q.num, .int .i64 ((x.q.den : Nat) : Int)] 128)).heap.size (w.alloc (.cells #[.int .i64 (x.p : Nat), .int .i64 x.day, .int .i64 x.q.num, .int .i64 ((x.q.den : Nat) : Int)] 128)) w') => choice_l (lf := lf) w' (hc.keep (hx1.keep hb').bel).fm hc.rc (aA t x.p) x.day hk hd)
  have HAc := Lib.hid (fun (k : Nat) (w' : World) (h' : RdR w0 w' R Z Q tv tu B qv fv wv td fl ws) => acq_any h' hl ⟨k, x.day, x.q⟩ (k : Nat) x.q.num ((x.q.den : Nat) : Int) rfl rfl rfl x.day rfl)
  have c0 : ∀ k v, (#[.int .i64 (x.p : Nat), .int .i64 x.day, .int .i64 x.q.num, .int .i64 ((x.q.den : Nat) : Int)] : Array Value)[k]? = some v → (w.alloc (.cells #[.int .i64 (x.p : Nat), .int .i64 x.day, .int .i64 x.q.num, .int .i64 ((x.q.den : Nat) : Int)] 128)).cell? ⟨w.heap.size, k, none⟩ = some v := fun k v hv => by rw [World.cell?_alloc_at _ _ _ _ rfl]; exact hv
  have x0 := c0 0 (.int .i64 (x.p : Nat)) rfl
  have x1 := c0 1 (.int .i64 x.day) rfl
  have x2 := c0 2 (.int .i64 x.q.num) rfl
  have x3 := c0 3 (.int .i64 ((x.q.den : Nat) : Int)) rfl
  have r2 := hx1.r2
  have HX := Lib.hid hx1
  have HG := Lib.hid (hg.keep hb)
  have HXc := Lib.hid (And.intro x0 (And.intro x1 (And.intro x2 x3)))
  have HO := Lib.hid (fun (k : Nat) (hk : w.heap.size ≤ k) => (show (k ≠ Q ∧ Off qv k) ∧ k ≠ R ∧ Off wv k from ⟨⟨by have := h.ltQ; omega, fun e => by have := (h.oq.lt k e).2; omega⟩, by have := h.ltR; omega, fun e => by have := (h.ow.lt k e).2; omega⟩))
  clear h hx1 hb hg hd hk hop c0 x0 x2 x3 hc
  generalize kid t x.p 0 = k0 at *
  generalize kid t x.p 1 = k1 at *
  generalize ((x.q.den : Nat) : Int) = xd at *
  generalize x.q.num = xn at *
  generalize aA t x.p = key at *
  generalize (envL lf lc).ch key x.day = pick at *
  unfold AcqV
  go_enter Tryz.func85, Tryz.ntmps85
  go_upto_region 1 with fail
  generalize w.alloc (.cells #[.int .i64 (x.p : Nat), .int .i64 x.day, .int .i64 xn, .int .i64 xd] 128) = w1 at *
  have x1 : w1.drew.cell? ⟨w.heap.size, 1, none⟩ = some (.int .i64 x.day) := x1
  have r2 : w1.drew.cell? ⟨R, 2, none⟩ = some (.pointer (some ⟨B, 0, none⟩)) := r2
  have HCd := Lib.hid (HCh.out w1.drew (Below.drew (Below.refl _ _)))
  go_region_held3 (fun w' => w'.cell? ⟨w.heap.size, 1, none⟩ = some (.int .i64 x.day) ∧ w'.cell? ⟨R, 2, none⟩ = some (.pointer (some ⟨B, 0, none⟩)))
    (first | (with_reducible exact ⟨x1, r2⟩))
    ((go_at_call 122; (with_reducible refine HCd.out.mono ?_); rintro e w4 ⟨⟨bb, rfl⟩, hb4⟩; have HB4 : Hid (Below w1.heap.size w1 w4) := Lib.hid (onF (Below.drew (Below.refl _ _)) hb4); have x1 := keepF hb4 x1; have r2 := keepF hb4 r2; clear hb4))
  have HX4 := Lib.hid (HX.out.keep HB4.out)
  have HG4 := Lib.hid (HG.out.keep HB4.out)
  have x0 : w4.drew.cell? ⟨w.heap.size, 0, none⟩ = some (.int .i64 (x.p : Nat)) := keepF (Below.drew HB4.out) HXc.out.1
  have x2 : w4.drew.cell? ⟨w.heap.size, 2, none⟩ = some (.int .i64 xn) := keepF (Below.drew HB4.out) HXc.out.2.2.1
  have x3 : w4.drew.cell? ⟨w.heap.size, 3, none⟩ = some (.int .i64 xd) := keepF (Below.drew HB4.out) HXc.out.2.2.2
  have HIn := Lib.hid (fun (w' : World) (i : Int) => instead_any w' (x.p : Nat) x.day xn xd i)
  clear r2 HB4 HX HG HXc HCh
  rcases hpk with rfl | rfl | rfl
  · have HSv : Hid (stp t (envL lf lc) tu x = some ([], [], [⟨x.day, 1, key⟩])) := Lib.hid (by rw [HSt.out, if_neg (by decide), if_neg (by decide)])
    have HW := Lib.hid (HX4.out.keep (Below.drew (Below.refl _ _)))
    have HV := Lib.hid (HW.out.keep (newF w4.drew (.cells #[.bool true, .int .i64 key, .int .i64 x.day] 46)))
    obtain ⟨wa, wc, rfl⟩ := HX4.out.ow.slice
    have r4 := HX4.out.r4
    have r4a := fun o => keepF (newF w4 o) r4
    have x1a := fun o => keepF (newF w4 o) x1
    clear x0 x2 x3 HIn HAc
    go_upto_region 3 with fail
    go_region_law
      ((refine step_append_x (E := waL) (k := 3) (fun _ => rfl) (by decide) waL_one Tryz.underlying34 infoWa rfl (by decide) (by rfl) _ _ (by rfl) w0.heap.size _ ws (by rfl) HW.out.ow ⟨x.day, 1, key⟩ (by rfl) _ rfl (by rfl) (by omega) HW.out.bel.size ?_
        intro g' cap2 w5 hown1 hgrow hat
        have HP := Lib.hid (HV.out.putW hgrow hown1 hat)
        have s1 := cellB hgrow HV.out.r4 HV.out.wR
        have e2 := (frozB (i := 4) hgrow HV.out.ltR HV.out.wR).trans (HV.out.fr 4)
        clear hown1 hgrow hat))
    all_goals
      go_wp2_with fail
      go_end0
      exact ⟨rfl, _, _, HSv.out, _, _, _, by rw [List.flatMap_nil, List.append_nil]; exact HP.out⟩
  · have HSw : Hid (∃ ts, stp t (envL lf lc) tu x = some (ts, [], []) ∧ ts.flatMap (acqL tu) = acqL tu ⟨k0, x.day, x.q⟩) := Lib.hid ⟨_, by rw [HSt.out, if_pos rfl], by simp⟩
    have g2' : w4.drew.cell? ⟨g, 0, none⟩ = some (.int .i64 (k0 : Nat)) := HG4.out.c 0 (by simp)
    have HA4 := Lib.hid (fun w' (hb : Below w4.heap.size w4 w') => HAc.out k0 w' (HX4.out.keep hb))
    clear HAc
    generalize acqL tu ⟨k0, x.day, x.q⟩ = al at *
    go_upto_region 5 with fail
    go_region_held3 (fun w' => w'.cell? ⟨g, 0, none⟩ = some (.int .i64 (k0 : Nat)) ∧ w'.cell? ⟨w.heap.size, 0, none⟩ = some (.int .i64 (x.p : Nat)) ∧ w'.cell? ⟨w.heap.size, 1, none⟩ = some (.int .i64 x.day) ∧ w'.cell? ⟨w.heap.size, 2, none⟩ = some (.int .i64 xn) ∧ w'.cell? ⟨w.heap.size, 3, none⟩ = some (.int .i64 xd))
      (first | (with_reducible exact ⟨g2', x0, x1, x2, x3⟩) | exact ⟨g2', x0, x1, x2, x3⟩)
      (first
        | (go_at_call 82; (with_reducible refine (HIn.out _ _).mono ?_); rintro e w5 ⟨rfl, hb5⟩; have HA5 := Lib.hid (HA4.out w5 (onF (Below.drew (Below.refl _ _)) hb5)); have g2' := keepF hb5 g2'; have x0 := keepF hb5 x0; have x1 := keepF hb5 x1; have x2 := keepF hb5 x2; have x3 := keepF hb5 x3; clear hb5)
        | (go_at_call 50; refine (HA5.out).mono ?_; rintro e w6 ⟨rfl, qv', hr, hlet, _⟩; have HR5 := Lib.hid hr; have g2' := hlet.cell g2' HG4.out.nQ HG4.out.oq; have x0 := hlet.cell x0 (HO.out _ (Nat.le_refl _)).1.1 (HO.out _ (Nat.le_refl _)).1.2; have x1 := hlet.cell x1 (HO.out _ (Nat.le_refl _)).1.1 (HO.out _ (Nat.le_refl _)).1.2; have x2 := hlet.cell x2 (HO.out _ (Nat.le_refl _)).1.1 (HO.out _ (Nat.le_refl _)).1.2; have x3 := hlet.cell x3 (HO.out _ (Nat.le_refl _)).1.1 (HO.out _ (Nat.le_refl _)).1.2; clear hr hlet))
    go_wp2_with fail
    go_end0
    obtain ⟨ts, h1, h2⟩ := HSw.out
    exact ⟨rfl, ts, _, h1, by rw [h2, List.append_nil]; exact ⟨_, _, _, HR5.out⟩⟩
  · have HSw : Hid (∃ ts, stp t (envL lf lc) tu x = some (ts, [], []) ∧ ts.flatMap (acqL tu) = acqL tu ⟨k1, x.day, x.q⟩) := Lib.hid ⟨_, by rw [HSt.out, if_neg (by decide), if_pos rfl], by simp⟩
    have g2' : w4.drew.cell? ⟨g, 1, none⟩ = some (.int .i64 (k1 : Nat)) := HG4.out.c 1 (by simp)
    have HA4 := Lib.hid (fun w' (hb : Below w4.heap.size w4 w') => HAc.out k1 w' (HX4.out.keep hb))
    clear HAc
    generalize acqL tu ⟨k1, x.day, x.q⟩ = al at *
    go_upto_region 7 with fail
    go_region_held3 (fun w' => w'.cell? ⟨g, 1, none⟩ = some (.int .i64 (k1 : Nat)) ∧ w'.cell? ⟨w.heap.size, 0, none⟩ = some (.int .i64 (x.p : Nat)) ∧ w'.cell? ⟨w.heap.size, 1, none⟩ = some (.int .i64 x.day) ∧ w'.cell? ⟨w.heap.size, 2, none⟩ = some (.int .i64 xn) ∧ w'.cell? ⟨w.heap.size, 3, none⟩ = some (.int .i64 xd))
      (first | (with_reducible exact ⟨g2', x0, x1, x2, x3⟩) | exact ⟨g2', x0, x1, x2, x3⟩)
      (first
        | (go_at_call 82; (with_reducible refine (HIn.out _ _).mono ?_); rintro e w5 ⟨rfl, hb5⟩; have HA5 := Lib.hid (HA4.out w5 (onF (Below.drew (Below.refl _ _)) hb5)); have g2' := keepF hb5 g2'; have x0 := keepF hb5 x0; have x1 := keepF hb5 x1; have x2 := keepF hb5 x2; have x3 := keepF hb5 x3; clear hb5)
        | (go_at_call 50; refine (HA5.out).mono ?_; rintro e w6 ⟨rfl, qv', hr, hlet, _⟩; have HR5 := Lib.hid hr; have g2' := hlet.cell g2' HG4.out.nQ HG4.out.oq; have x0 := hlet.cell x0 (HO.out _ (Nat.le_refl _)).1.1 (HO.out _ (Nat.le_refl _)).1.2; have x1 := hlet.cell x1 (HO.out _ (Nat.le_refl _)).1.1 (HO.out _ (Nat.le_refl _)).1.2; have x2 := hlet.cell x2 (HO.out _ (Nat.le_refl _)).1.1 (HO.out _ (Nat.le_refl _)).1.2; have x3 := hlet.cell x3 (HO.out _ (Nat.le_refl _)).1.1 (HO.out _ (Nat.le_refl _)).1.2; clear hr hlet))
    go_wp2_with fail
    go_end0
    obtain ⟨ts, h1, h2⟩ := HSw.out
    exact ⟨rfl, ts, _, h1, by rw [h2, List.append_nil]; exact ⟨_, _, _, HR5.out⟩⟩

end Go.Proofs.YtgeneoamngfomaaGreatDoor

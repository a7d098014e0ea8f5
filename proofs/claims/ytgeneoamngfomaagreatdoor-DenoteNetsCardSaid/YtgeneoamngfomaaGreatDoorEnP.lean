/-
  Package denote: do: what it answers, op by op.
-/
import Derived.Test.YtgeneoamngfomaaGreatDoorEI
import Derived.Deep.DeepCutAuto
namespace Go.Proofs.YtgeneoamngfomaaGreatDoor
open Go.RowKit Go.Lib Go.Maps
set_option linter.unusedVariables false
set_option linter.unusedSimpArgs false

theorem cellN (w : World) (cs : Array Value) (ty : TypeId) (k : Nat) (v : Value) (h : cs[k]? = some v) : (w.alloc (.cells cs ty)).drew.cell? ⟨w.heap.size, k, none⟩ = some v := by
  show (w.alloc _).cell? _ = _
  rw [World.cell?_alloc_at _ _ _ _ rfl]; exact h
theorem DnM.nil {w0 w : World} {R Z Q : Nat} {tv : Value} {tu : Int} {B : Nat} {td : List Td} {fl : List Flw} {ws : List Wat} (h : DnM w0 w R Z Q tv tu B td fl ws) : DnM w0 w R Z Q tv tu B (td ++ ([] : List Td).flatMap (acqL tu)) (fl ++ []) (ws ++ []) := by
  rw [List.flatMap_nil, List.append_nil, List.append_nil, List.append_nil]; exact h
theorem bls_own {w : World} {R Q : Nat} {qv wv : Value} {base : Nat} {v : Value} {ks : List Nat} (h : YtgeneoamngfomaaGreatDoor.Own w base v (ks.map fun (k : Nat) => (k : Int))) (h0 : 0 < ks.length) (hb : ∀ k, base ≤ k → k ≠ Q ∧ Off qv k ∧ k ≠ R ∧ Off wv k) :
    ∃ g cap, v = .slice (some ⟨g, 0, none⟩) ks.length cap ∧ ks.length ≤ cap ∧ BlS w R Q qv wv g ks := by
  have hr := h.reads
  obtain ⟨h1, h2⟩ := id h
  rw [List.length_map] at h1 h2
  rcases h2 with ⟨rfl, h2⟩ | ⟨g, cap, cur, rfl, hg, hc, hn, hm, h3, h4⟩
  · omega
  · obtain ⟨b1, b2, b3, b4⟩ := hb g hg
    refine ⟨g, cap, rfl, hn, fun j hj => ?_, b1, b2, b3, b4⟩
    rcases hr with ⟨e, _⟩ | ⟨g', cap', e, _, _, hrow⟩
    · cases e
    · injection e with e1 _ _
      injection e1 with e1
      injection e1 with e1
      subst e1
      have := hrow j (by simpa using hj)
      simpa [List.getD_eq_getElem?_getD, hj] using this
theorem pl_kids (t : List Nd) (p n : Nat) : plL t p n = ((List.range n).map fun i => kid t p i).map fun (k : Nat) => (k : Int) := by
  unfold plL uptoT kid
  rw [List.map_map]; rfl
theorem DoP.shape {w0 : World} {R Z Q : Nat} {tv : Value} {tu : Int} {B : Nat} {td : List Td} {fl : List Flw} {ws : List Wat} {e : Ending} {w' : World} {s : Option (List Td × List Flw × List Wat)} (h : DoP w0 R Z Q tv tu B td fl ws e w' s) : ∃ er, e = .returned (.int .i64 er) := by
  cases s with
  | none => exact ⟨_, h.1⟩
  | some r => exact ⟨_, h.1⟩
set_option maxRecDepth 100000 in
set_option maxHeartbeats 4000000 in
theorem do_9 {w0 w : World} {R Z Q : Nat} {tv : Value} {tu : Int} {B bf bc nn : Nat} {Df Dc : DataW Unit} {lf lc : List Fct} {t : List Nd} (hc : CtxD w0 t tv B bf bc nn Df Dc lf lc) {qv fv wv : Value} {td : List Td} {fl : List Flw} {ws : List Wat} (h : RdR w0 w R Z Q tv tu B qv fv wv td fl ws)
    (hl : td.length ≤ 900) (hlf : fl.length ≤ 900) (hlw : ws.length ≤ 40000) (hto : tu ≤ 73048) (x : Td) (hx : CtA t x.p) (hop : opA t x.p = 9) (hq : fitsR x.q = true) (hd0 : 0 ≤ x.day) (hd1 : x.day ≤ 73048) :
    Calls Tryz.prog 51 #[.pointer (some ⟨R, 0, none⟩), .agg #[.int .i64 (x.p : Nat), .int .i64 x.day, .int .i64 x.q.num, .int .i64 ((x.q.den : Nat) : Int)], AcqV Z Q] w fun e w' => DoP w0 R Z Q tv tu B td fl ws e w' (stp t (envL lf lc) tu x) := by
  have hn0 : 0 < t.length := by have := hx.lt; omega
  obtain ⟨tb, to', tc, rfl, htc1, htc2, hT⟩ : ∃ b o cap, tv = .slice (some ⟨b, o, none⟩) t.length cap ∧ t.length ≤ cap ∧ cap ≤ 9223372036854775807 ∧ NdA w0 b o t := by
    rcases hc.sl with ⟨e, _⟩ | ⟨_, b, o, cap, h1, h2, h3, h4⟩
    · rw [e] at hn0; exact absurd hn0 (Nat.lt_irrefl _)
    · exact ⟨b, o, cap, h1, h2, h3, h4⟩
  have hb := newF w (.cells #[.int .i64 (x.p : Nat), .int .i64 x.day, .int .i64 x.q.num, .int .i64 ((x.q.den : Nat) : Int)] 128)
  have hx1 := h.keep hb
  have c0 : ∀ k v, (#[.int .i64 (x.p : Nat), .int .i64 x.day, .int .i64 x.q.num, .int .i64 ((x.q.den : Nat) : Int)] : Array Value)[k]? = some v → (w.alloc (.cells #[.int .i64 (x.p : Nat), .int .i64 x.day, .int .i64 x.q.num, .int .i64 ((x.q.den : Nat) : Int)] 128)).cell? ⟨w.heap.size, k, none⟩ = some v := fun k v hv => by rw [World.cell?_alloc_at _ _ _ _ rfl]; exact hv
  have x0 := c0 0 (.int .i64 (x.p : Nat)) rfl
  have x1 := c0 1 (.int .i64 x.day) rfl
  have x2 := c0 2 (.int .i64 x.q.num) rfl
  have x3 := c0 3 (.int .i64 ((x.q.den : Nat) : Int)) rfl
  have HXc := Lib.hid (And.intro x0 (And.intro x1 (And.intro x2 x3)))
  have HX := Lib.hid hx1
  have r0 := hx1.r0
  have HCx := Lib.hid hc
  have HXa := Lib.hid hx
  have HOp := Lib.hid hop
  have HQ := Lib.hid hq
  have HDy := Lib.hid (And.intro hd0 hd1)
  have HO := Lib.hid (fun (k : Nat) (hk : w.heap.size ≤ k) => (show k ≠ Q ∧ Off qv k ∧ k ≠ R ∧ Off wv k from ⟨by have := h.ltQ; omega, fun e => by have := (h.oq.lt k e).2; omega, by have := h.ltR; omega, fun e => by have := (h.ow.lt k e).2; omega⟩))
  have HWs : Hid (w.heap.size ≤ (w.alloc (.cells #[.int .i64 (x.p : Nat), .int .i64 x.day, .int .i64 x.q.num, .int .i64 ((x.q.den : Nat) : Int)] 128)).heap.size) := Lib.hid hb.size
  have p0 : (0 : Int) ≤ (x.p : Int) := by omega
  have p1 : (x.p : Int) < (t.length : Int) := by have := hx.lt; omega
  have HBl := Lib.hid (fun (w' : World) (hb' : Below (w.alloc (.cells #[.int .i64 (x.p : Nat), .int .i64 x.day, .int .i64 x.q.num, .int .i64 ((x.q.den : Nat) : Int)] 128)).heap.size (w.alloc (.cells #[.int .i64 (x.p : Nat), .int .i64 x.day, .int .i64 x.q.num, .int .i64 ((x.q.den : Nat) : Int)] 128)) w') => below_ok t (by have := hc.len; omega) tb to' tc x.p htc1 htc2 (ok_tm hc.ok hx.lt) w' (NdA.keep hT (hx1.keep hb').bel) (hc.kn.keep (hx1.keep hb').bel))
  rw [hop] at HBl
  obtain ⟨n0, n1, n2, n3, n4⟩ := NdA.keep hT hx1.bel x.p hx.lt
  have eop : (t.getD x.p default).op = 9 := hop
  have ea : (t.getD x.p default).a = aA t x.p := rfl
  have eb : (t.getD x.p default).b = bA t x.p := rfl
  rw [eop] at n0
  rw [ea] at n1
  rw [eb] at n2
  have HSt := Lib.hid (stp_zero (t := t) (E := envL lf lc) (tu := tu) (x := x) (by omega))
  generalize (t.getD x.p default).num = zn at *
  generalize (t.getD x.p default).den = zd at *
  clear h hb hx hop hq c0 hn0 hT eop ea eb hx1 hc hd0 hd1
  generalize aA t x.p = ka at *
  generalize bA t x.p = kb at *
  generalize ((x.q.den : Nat) : Int) = xd at *
  generalize x.q.num = xn at *
  go_enter Tryz.func51, Tryz.ntmps51
  go_upto_region 1 with fail
  generalize w.alloc (.cells #[.int .i64 (x.p : Nat), .int .i64 x.day, .int .i64 xn, .int .i64 xd] 128) = w1 at *
  go_cut [7] (fun u wx => ∃ N, u = .pointer (some ⟨N, 0, none⟩) ∧ (wx.cell? ⟨N, 0, none⟩ = some (.int .i64 9) ∧ wx.cell? ⟨N, 1, none⟩ = some (.int .i64 ka) ∧ wx.cell? ⟨N, 2, none⟩ = some (.int .i64 kb)) ∧ w1.heap.size ≤ N ∧ Below w1.heap.size w1 wx)
  case first =>
    have hd : ∀ w', Below w1.heap.size w1 w' → (w'.cell? ⟨R, 0, none⟩ = some (.slice (some ⟨tb, to', none⟩) t.length tc) ∧ w'.cell? ⟨w.heap.size, 0, none⟩ = some (.int .i64 (x.p : Nat)) ∧ w'.cell? ⟨tb, to' + x.p * 5, none⟩ = some (.int .i64 9) ∧ w'.cell? ⟨tb, to' + x.p * 5 + 1, none⟩ = some (.int .i64 ka) ∧ w'.cell? ⟨tb, to' + x.p * 5 + 2, none⟩ = some (.int .i64 kb) ∧ w'.cell? ⟨tb, to' + x.p * 5 + 3, none⟩ = some (.int .i64 zn) ∧ w'.cell? ⟨tb, to' + x.p * 5 + 4, none⟩ = some (.int .i64 zd)) := fun w' hb => ⟨keepF hb r0, keepF hb x0, keepF hb n0, keepF hb n1, keepF hb n2, keepF hb n3, keepF hb n4⟩
    have ha : ∀ o, Below w1.heap.size w1 (w1.alloc o).drew := fun o => Below.drew (newF w1 o)
    have hs : ∀ (w' : World) (u0 u1 u2 u3 u4 : Value), Below w1.heap.size w1 w' → Below w1.heap.size w1 (((((w'.setCell ⟨w1.heap.size, 0, none⟩ u0).setCell ⟨w1.heap.size, 1, none⟩ u1).setCell ⟨w1.heap.size, 2, none⟩ u2).setCell ⟨w1.heap.size, 3, none⟩ u3).setCell ⟨w1.heap.size, 4, none⟩ u4) := fun w' u0 u1 u2 u3 u4 hb => Below.setCell (Below.setCell (Below.setCell (Below.setCell (Below.setCell hb (Nat.le_refl _) _) (Nat.le_refl _) _) (Nat.le_refl _) _) (Nat.le_refl _) _) (Nat.le_refl _) _
    clear r0 x0 x1 x2 x3 n0 n1 n2 n3 n4
    have hd0 := hd _ (Below.drew (Below.refl _ _))
    go_region_held3 (fun w' => w'.cell? ⟨R, 0, none⟩ = some (.slice (some ⟨tb, to', none⟩) t.length tc) ∧ w'.cell? ⟨w.heap.size, 0, none⟩ = some (.int .i64 (x.p : Nat)) ∧ w'.cell? ⟨tb, to' + x.p * 5, none⟩ = some (.int .i64 9) ∧ w'.cell? ⟨tb, to' + x.p * 5 + 1, none⟩ = some (.int .i64 ka) ∧ w'.cell? ⟨tb, to' + x.p * 5 + 2, none⟩ = some (.int .i64 kb) ∧ w'.cell? ⟨tb, to' + x.p * 5 + 3, none⟩ = some (.int .i64 zn) ∧ w'.cell? ⟨tb, to' + x.p * 5 + 4, none⟩ = some (.int .i64 zd))
      (first | (with_reducible exact hd0) | (with_reducible exact hd _ (ha _)) | exact hd _ (Below.drew (newF w1 _)) | exact hd _ (onF (Below.drew (Below.refl _ _)) (newF _ _)) | exact hd _ (hs _ _ _ _ _ _ (ha _)) | exact hd _ (hs _ _ _ _ _ _ (onF (Below.drew (Below.refl _ _)) (newF _ _))))
      (fail)
    all_goals (try go_wp2)
    all_goals go_meet
    all_goals first
      | exact ⟨_, rfl, ⟨cellN _ _ _ _ _ rfl, cellN _ _ _ _ _ rfl, cellN _ _ _ _ _ rfl⟩, Nat.le_refl _, by first | exact ha _ | exact onF (Below.drew (Below.refl _ _)) (newF _ _)⟩
  case rest =>
  obtain ⟨N, rfl, ⟨m0, m1, m2⟩, hN, hbn⟩ := hcut
  have HX2 := Lib.hid (HX.out.keep hbn)
  have r0 : wc.drew.cell? ⟨R, 0, none⟩ = some (.slice (some ⟨tb, to', none⟩) t.length tc) := keepF (Below.drew hbn) r0
  have x0 : wc.drew.cell? ⟨w.heap.size, 0, none⟩ = some (.int .i64 (x.p : Nat)) := keepF (Below.drew hbn) x0
  have HB2 := Lib.hid (HBl.out wc.drew (Below.drew hbn))
  have HW2 := Lib.hid (And.intro hbn hbn.size)
  have HM := Lib.hid (And.intro m0 (And.intro m1 m2))
  have HNw : Hid (w.heap.size ≤ N) := Lib.hid (Nat.le_trans HWs.out hN)
  clear x1 x2 x3 n0 n1 n2 n3 n4 m0 m1 m2 hbn HBl
  go_upto_region 2 with fail
  go_region_held3 (fun w' => w'.cell? ⟨R, 0, none⟩ = some (.slice (some ⟨tb, to', none⟩) t.length tc) ∧ w'.cell? ⟨w.heap.size, 0, none⟩ = some (.int .i64 (x.p : Nat)))
    (first | (with_reducible exact ⟨r0, x0⟩))
    ((go_at_call 79; (with_reducible refine HB2.out.mono ?_); rintro e w3 ⟨bv, rfl, hbo, hb3⟩; have HBo := Lib.hid hbo; have HB3 : Hid (Below wc.heap.size wc w3) := Lib.hid (onF (Below.drew (Below.refl _ _)) hb3); have r0 := keepF hb3 r0; have x0 := keepF hb3 x0; obtain ⟨ba, bl, bcp, rfl⟩ : ∃ a l c, bv = .slice a l c := (by rcases hbo.reads with ⟨e, _⟩ | ⟨g', c', e, _⟩ <;> exact ⟨_, _, _, e⟩); clear hbo hb3))
  have HX3 := Lib.hid (HX2.out.keep HB3.out)
  have HXc3 := Lib.hid (And.intro (keepF HB3.out (keepF HW2.out.1 HXc.out.1)) (And.intro (keepF HB3.out (keepF HW2.out.1 HXc.out.2.1)) (And.intro (keepF HB3.out (keepF HW2.out.1 HXc.out.2.2.1)) (keepF HB3.out (keepF HW2.out.1 HXc.out.2.2.2)))))
  have m0 := keepF HB3.out HM.out.1
  have m1 := keepF HB3.out HM.out.2.1
  have m2 := keepF HB3.out HM.out.2.2
  obtain ⟨x0, x1, x2, x3⟩ := HXc3.out
  have HW3 : Hid (w.heap.size ≤ wc.drew.heap.size) := Lib.hid (by
    have h1 := HW2.out.2
    have h2 : w.heap.size ≤ w1.heap.size := HWs.out
    exact Nat.le_trans h2 h1)
  clear r0 HX2 HB2 HM
  go_wp2_with fail
  go_ret
  rw [HSt.out]
  exact ⟨rfl, DnM.nil ⟨_, _, _, HX3.out⟩⟩
set_option maxRecDepth 100000 in
set_option maxHeartbeats 4000000 in
theorem do_10 {w0 w : World} {R Z Q : Nat} {tv : Value} {tu : Int} {B bf bc nn : Nat} {Df Dc : DataW Unit} {lf lc : List Fct} {t : List Nd} (hc : CtxD w0 t tv B bf bc nn Df Dc lf lc) {qv fv wv : Value} {td : List Td} {fl : List Flw} {ws : List Wat} (h : RdR w0 w R Z Q tv tu B qv fv wv td fl ws)
    (hl : td.length ≤ 900) (hlf : fl.length ≤ 900) (hlw : ws.length ≤ 40000) (hto : tu ≤ 73048) (x : Td) (hx : CtA t x.p) (hop : opA t x.p = 10) (hq : fitsR x.q = true) (hd0 : 0 ≤ x.day) (hd1 : x.day ≤ 73048) :
    Calls Tryz.prog 51 #[.pointer (some ⟨R, 0, none⟩), .agg #[.int .i64 (x.p : Nat), .int .i64 x.day, .int .i64 x.q.num, .int .i64 ((x.q.den : Nat) : Int)], AcqV Z Q] w fun e w' => DoP w0 R Z Q tv tu B td fl ws e w' (stp t (envL lf lc) tu x) := by
  have hn0 : 0 < t.length := by have := hx.lt; omega
  obtain ⟨tb, to', tc, rfl, htc1, htc2, hT⟩ : ∃ b o cap, tv = .slice (some ⟨b, o, none⟩) t.length cap ∧ t.length ≤ cap ∧ cap ≤ 9223372036854775807 ∧ NdA w0 b o t := by
    rcases hc.sl with ⟨e, _⟩ | ⟨_, b, o, cap, h1, h2, h3, h4⟩
    · rw [e] at hn0; exact absurd hn0 (Nat.lt_irrefl _)
    · exact ⟨b, o, cap, h1, h2, h3, h4⟩
  have hb := newF w (.cells #[.int .i64 (x.p : Nat), .int .i64 x.day, .int .i64 x.q.num, .int .i64 ((x.q.den : Nat) : Int)] 128)
  have hx1 := h.keep hb
  have c0 : ∀ k v, (#[.int .i64 (x.p : Nat), .int .i64 x.day, .int .i64 x.q.num, .int .i64 ((x.q.den : Nat) : Int)] : Array Value)[k]? = some v → (w.alloc (.cells #[.int .i64 (x.p : Nat), .int .i64 x.day, .int .i64 x.q.num, .int .i64 ((x.q.den : Nat) : Int)] 128)).cell? ⟨w.heap.size, k, none⟩ = some v := fun k v hv => by rw [World.cell?_alloc_at _ _ _ _ rfl]; exact hv
  have x0 := c0 0 (.int .i64 (x.p : Nat)) rfl
  have x1 := c0 1 (.int .i64 x.day) rfl
  have x2 := c0 2 (.int .i64 x.q.num) rfl
  have x3 := c0 3 (.int .i64 ((x.q.den : Nat) : Int)) rfl
  have HXc := Lib.hid (And.intro x0 (And.intro x1 (And.intro x2 x3)))
  have HX := Lib.hid hx1
  have r0 := hx1.r0
  have HCx := Lib.hid hc
  have HXa := Lib.hid hx
  have HOp := Lib.hid hop
  have HQ := Lib.hid hq
  have HDy := Lib.hid (And.intro hd0 hd1)
  have HO := Lib.hid (fun (k : Nat) (hk : w.heap.size ≤ k) => (show k ≠ Q ∧ Off qv k ∧ k ≠ R ∧ Off wv k from ⟨by have := h.ltQ; omega, fun e => by have := (h.oq.lt k e).2; omega, by have := h.ltR; omega, fun e => by have := (h.ow.lt k e).2; omega⟩))
  have HWs : Hid (w.heap.size ≤ (w.alloc (.cells #[.int .i64 (x.p : Nat), .int .i64 x.day, .int .i64 x.q.num, .int .i64 ((x.q.den : Nat) : Int)] 128)).heap.size) := Lib.hid hb.size
  have p0 : (0 : Int) ≤ (x.p : Int) := by omega
  have p1 : (x.p : Int) < (t.length : Int) := by have := hx.lt; omega
  have HBl := Lib.hid (fun (w' : World) (hb' : Below (w.alloc (.cells #[.int .i64 (x.p : Nat), .int .i64 x.day, .int .i64 x.q.num, .int .i64 ((x.q.den : Nat) : Int)] 128)).heap.size (w.alloc (.cells #[.int .i64 (x.p : Nat), .int .i64 x.day, .int .i64 x.q.num, .int .i64 ((x.q.den : Nat) : Int)] 128)) w') => below_ok t (by have := hc.len; omega) tb to' tc x.p htc1 htc2 (ok_tm hc.ok hx.lt) w' (NdA.keep hT (hx1.keep hb').bel) (hc.kn.keep (hx1.keep hb').bel))
  rw [hop] at HBl
  obtain ⟨n0, n1, n2, n3, n4⟩ := NdA.keep hT hx1.bel x.p hx.lt
  have eop : (t.getD x.p default).op = 10 := hop
  have ea : (t.getD x.p default).a = aA t x.p := rfl
  have eb : (t.getD x.p default).b = bA t x.p := rfl
  rw [eop] at n0
  rw [ea] at n1
  rw [eb] at n2
  have HSt := Lib.hid (stp_one (t := t) (E := envL lf lc) (tu := tu) (x := x) hop)
  have HPy := Lib.hid (fun (w' : World) (h' : RdR w0 w' R Z Q (.slice (some ⟨tb, to', none⟩) t.length tc) tu B qv fv wv td fl ws) => pay_any h' (by omega) x hq (x.p : Nat) (aA t x.p))
  generalize (t.getD x.p default).num = zn at *
  generalize (t.getD x.p default).den = zd at *
  clear h hb hx hop hq c0 hn0 hT eop ea eb hx1 hc hd0 hd1
  generalize aA t x.p = ka at *
  generalize bA t x.p = kb at *
  generalize ((x.q.den : Nat) : Int) = xd at *
  generalize x.q.num = xn at *
  go_enter Tryz.func51, Tryz.ntmps51
  go_upto_region 1 with fail
  generalize w.alloc (.cells #[.int .i64 (x.p : Nat), .int .i64 x.day, .int .i64 xn, .int .i64 xd] 128) = w1 at *
  go_cut [7] (fun u wx => ∃ N, u = .pointer (some ⟨N, 0, none⟩) ∧ (wx.cell? ⟨N, 0, none⟩ = some (.int .i64 10) ∧ wx.cell? ⟨N, 1, none⟩ = some (.int .i64 ka) ∧ wx.cell? ⟨N, 2, none⟩ = some (.int .i64 kb)) ∧ w1.heap.size ≤ N ∧ Below w1.heap.size w1 wx)
  case first =>
    have hd : ∀ w', Below w1.heap.size w1 w' → (w'.cell? ⟨R, 0, none⟩ = some (.slice (some ⟨tb, to', none⟩) t.length tc) ∧ w'.cell? ⟨w.heap.size, 0, none⟩ = some (.int .i64 (x.p : Nat)) ∧ w'.cell? ⟨tb, to' + x.p * 5, none⟩ = some (.int .i64 10) ∧ w'.cell? ⟨tb, to' + x.p * 5 + 1, none⟩ = some (.int .i64 ka) ∧ w'.cell? ⟨tb, to' + x.p * 5 + 2, none⟩ = some (.int .i64 kb) ∧ w'.cell? ⟨tb, to' + x.p * 5 + 3, none⟩ = some (.int .i64 zn) ∧ w'.cell? ⟨tb, to' + x.p * 5 + 4, none⟩ = some (.int .i64 zd)) := fun w' hb => ⟨keepF hb r0, keepF hb x0, keepF hb n0, keepF hb n1, keepF hb n2, keepF hb n3, keepF hb n4⟩
    have ha : ∀ o, Below w1.heap.size w1 (w1.alloc o).drew := fun o => Below.drew (newF w1 o)
    have hs : ∀ (w' : World) (u0 u1 u2 u3 u4 : Value), Below w1.heap.size w1 w' → Below w1.heap.size w1 (((((w'.setCell ⟨w1.heap.size, 0, none⟩ u0).setCell ⟨w1.heap.size, 1, none⟩ u1).setCell ⟨w1.heap.size, 2, none⟩ u2).setCell ⟨w1.heap.size, 3, none⟩ u3).setCell ⟨w1.heap.size, 4, none⟩ u4) := fun w' u0 u1 u2 u3 u4 hb => Below.setCell (Below.setCell (Below.setCell (Below.setCell (Below.setCell hb (Nat.le_refl _) _) (Nat.le_refl _) _) (Nat.le_refl _) _) (Nat.le_refl _) _) (Nat.le_refl _) _
    clear r0 x0 x1 x2 x3 n0 n1 n2 n3 n4
    have hd0 := hd _ (Below.drew (Below.refl _ _))
    go_region_held3 (fun w' => w'.cell? ⟨R, 0, none⟩ = some (.slice (some ⟨tb, to', none⟩) t.length tc) ∧ w'.cell? ⟨w.heap.size, 0, none⟩ = some (.int .i64 (x.p : Nat)) ∧ w'.cell? ⟨tb, to' + x.p * 5, none⟩ = some (.int .i64 10) ∧ w'.cell? ⟨tb, to' + x.p * 5 + 1, none⟩ = some (.int .i64 ka) ∧ w'.cell? ⟨tb, to' + x.p * 5 + 2, none⟩ = some (.int .i64 kb) ∧ w'.cell? ⟨tb, to' + x.p * 5 + 3, none⟩ = some (.int .i64 zn) ∧ w'.cell? ⟨tb, to' + x.p * 5 + 4, none⟩ = some (.int .i64 zd))
      (first | (with_reducible exact hd0) | (with_reducible exact hd _ (ha _)) | exact hd _ (Below.drew (newF w1 _)) | exact hd _ (onF (Below.drew (Below.refl _ _)) (newF _ _)) | exact hd _ (hs _ _ _ _ _ _ (ha _)) | exact hd _ (hs _ _ _ _ _ _ (onF (Below.drew (Below.refl _ _)) (newF _ _))))
      (fail)
    all_goals (try go_wp2)
    all_goals go_meet
    all_goals first
      | exact ⟨_, rfl, ⟨cellN _ _ _ _ _ rfl, cellN _ _ _ _ _ rfl, cellN _ _ _ _ _ rfl⟩, Nat.le_refl _, by first | exact ha _ | exact onF (Below.drew (Below.refl _ _)) (newF _ _)⟩
  case rest =>
  obtain ⟨N, rfl, ⟨m0, m1, m2⟩, hN, hbn⟩ := hcut
  have HX2 := Lib.hid (HX.out.keep hbn)
  have r0 : wc.drew.cell? ⟨R, 0, none⟩ = some (.slice (some ⟨tb, to', none⟩) t.length tc) := keepF (Below.drew hbn) r0
  have x0 : wc.drew.cell? ⟨w.heap.size, 0, none⟩ = some (.int .i64 (x.p : Nat)) := keepF (Below.drew hbn) x0
  have HB2 := Lib.hid (HBl.out wc.drew (Below.drew hbn))
  have HW2 := Lib.hid (And.intro hbn hbn.size)
  have HM := Lib.hid (And.intro m0 (And.intro m1 m2))
  have HNw : Hid (w.heap.size ≤ N) := Lib.hid (Nat.le_trans HWs.out hN)
  clear x1 x2 x3 n0 n1 n2 n3 n4 m0 m1 m2 hbn HBl
  go_upto_region 2 with fail
  go_region_held3 (fun w' => w'.cell? ⟨R, 0, none⟩ = some (.slice (some ⟨tb, to', none⟩) t.length tc) ∧ w'.cell? ⟨w.heap.size, 0, none⟩ = some (.int .i64 (x.p : Nat)))
    (first | (with_reducible exact ⟨r0, x0⟩))
    ((go_at_call 79; (with_reducible refine HB2.out.mono ?_); rintro e w3 ⟨bv, rfl, hbo, hb3⟩; have HBo := Lib.hid hbo; have HB3 : Hid (Below wc.heap.size wc w3) := Lib.hid (onF (Below.drew (Below.refl _ _)) hb3); have r0 := keepF hb3 r0; have x0 := keepF hb3 x0; obtain ⟨ba, bl, bcp, rfl⟩ : ∃ a l c, bv = .slice a l c := (by rcases hbo.reads with ⟨e, _⟩ | ⟨g', c', e, _⟩ <;> exact ⟨_, _, _, e⟩); clear hbo hb3))
  have HX3 := Lib.hid (HX2.out.keep HB3.out)
  have HXc3 := Lib.hid (And.intro (keepF HB3.out (keepF HW2.out.1 HXc.out.1)) (And.intro (keepF HB3.out (keepF HW2.out.1 HXc.out.2.1)) (And.intro (keepF HB3.out (keepF HW2.out.1 HXc.out.2.2.1)) (keepF HB3.out (keepF HW2.out.1 HXc.out.2.2.2)))))
  have m0 := keepF HB3.out HM.out.1
  have m1 := keepF HB3.out HM.out.2.1
  have m2 := keepF HB3.out HM.out.2.2
  obtain ⟨x0, x1, x2, x3⟩ := HXc3.out
  have HW3 : Hid (w.heap.size ≤ wc.drew.heap.size) := Lib.hid (by
    have h1 := HW2.out.2
    have h2 : w.heap.size ≤ w1.heap.size := HWs.out
    exact Nat.le_trans h2 h1)
  clear r0 HX2 HB2 HM
  have HP3 := Lib.hid (HPy.out w3 HX3.out)
  clear HPy HBo
  go_wp2_with fail
  refine HP3.out.mono ?_
  rintro e w5 ⟨rfl, hm⟩
  have HM5 := Lib.hid hm
  clear hm x0 x1 x2 x3 m0 m1 m2
  go_wp2_with fail
  go_ret
  rw [HSt.out]
  exact ⟨rfl, by simpa using HM5.out⟩
set_option maxRecDepth 100000 in
set_option maxHeartbeats 4000000 in
theorem do_11 {w0 w : World} {R Z Q : Nat} {tv : Value} {tu : Int} {B bf bc nn : Nat} {Df Dc : DataW Unit} {lf lc : List Fct} {t : List Nd} (hc : CtxD w0 t tv B bf bc nn Df Dc lf lc) {qv fv wv : Value} {td : List Td} {fl : List Flw} {ws : List Wat} (h : RdR w0 w R Z Q tv tu B qv fv wv td fl ws)
    (hl : td.length ≤ 900) (hlf : fl.length ≤ 900) (hlw : ws.length ≤ 40000) (hto : tu ≤ 73048) (x : Td) (hx : CtA t x.p) (hop : opA t x.p = 11) (hq : fitsR x.q = true) (hd0 : 0 ≤ x.day) (hd1 : x.day ≤ 73048) :
    Calls Tryz.prog 51 #[.pointer (some ⟨R, 0, none⟩), .agg #[.int .i64 (x.p : Nat), .int .i64 x.day, .int .i64 x.q.num, .int .i64 ((x.q.den : Nat) : Int)], AcqV Z Q] w fun e w' => DoP w0 R Z Q tv tu B td fl ws e w' (stp t (envL lf lc) tu x) := by
  have hn0 : 0 < t.length := by have := hx.lt; omega
  obtain ⟨tb, to', tc, rfl, htc1, htc2, hT⟩ : ∃ b o cap, tv = .slice (some ⟨b, o, none⟩) t.length cap ∧ t.length ≤ cap ∧ cap ≤ 9223372036854775807 ∧ NdA w0 b o t := by
    rcases hc.sl with ⟨e, _⟩ | ⟨_, b, o, cap, h1, h2, h3, h4⟩
    · rw [e] at hn0; exact absurd hn0 (Nat.lt_irrefl _)
    · exact ⟨b, o, cap, h1, h2, h3, h4⟩
  have hb := newF w (.cells #[.int .i64 (x.p : Nat), .int .i64 x.day, .int .i64 x.q.num, .int .i64 ((x.q.den : Nat) : Int)] 128)
  have hx1 := h.keep hb
  have c0 : ∀ k v, (#[.int .i64 (x.p : Nat), .int .i64 x.day, .int .i64 x.q.num, .int .i64 ((x.q.den : Nat) : Int)] : Array Value)[k]? = some v → (w.alloc (.cells #[.int .i64 (x.p : Nat), .int .i64 x.day, .int .i64 x.q.num, .int .i64 ((x.q.den : Nat) : Int)] 128)).cell? ⟨w.heap.size, k, none⟩ = some v := fun k v hv => by rw [World.cell?_alloc_at _ _ _ _ rfl]; exact hv
  have x0 := c0 0 (.int .i64 (x.p : Nat)) rfl
  have x1 := c0 1 (.int .i64 x.day) rfl
  have x2 := c0 2 (.int .i64 x.q.num) rfl
  have x3 := c0 3 (.int .i64 ((x.q.den : Nat) : Int)) rfl
  have HXc := Lib.hid (And.intro x0 (And.intro x1 (And.intro x2 x3)))
  have HX := Lib.hid hx1
  have r0 := hx1.r0
  have HCx := Lib.hid hc
  have HXa := Lib.hid hx
  have HOp := Lib.hid hop
  have HQ := Lib.hid hq
  have HDy := Lib.hid (And.intro hd0 hd1)
  have HO := Lib.hid (fun (k : Nat) (hk : w.heap.size ≤ k) => (show k ≠ Q ∧ Off qv k ∧ k ≠ R ∧ Off wv k from ⟨by have := h.ltQ; omega, fun e => by have := (h.oq.lt k e).2; omega, by have := h.ltR; omega, fun e => by have := (h.ow.lt k e).2; omega⟩))
  have HWs : Hid (w.heap.size ≤ (w.alloc (.cells #[.int .i64 (x.p : Nat), .int .i64 x.day, .int .i64 x.q.num, .int .i64 ((x.q.den : Nat) : Int)] 128)).heap.size) := Lib.hid hb.size
  have p0 : (0 : Int) ≤ (x.p : Int) := by omega
  have p1 : (x.p : Int) < (t.length : Int) := by have := hx.lt; omega
  have HBl := Lib.hid (fun (w' : World) (hb' : Below (w.alloc (.cells #[.int .i64 (x.p : Nat), .int .i64 x.day, .int .i64 x.q.num, .int .i64 ((x.q.den : Nat) : Int)] 128)).heap.size (w.alloc (.cells #[.int .i64 (x.p : Nat), .int .i64 x.day, .int .i64 x.q.num, .int .i64 ((x.q.den : Nat) : Int)] 128)) w') => below_ok t (by have := hc.len; omega) tb to' tc x.p htc1 htc2 (ok_tm hc.ok hx.lt) w' (NdA.keep hT (hx1.keep hb').bel) (hc.kn.keep (hx1.keep hb').bel))
  rw [hop] at HBl
  obtain ⟨n0, n1, n2, n3, n4⟩ := NdA.keep hT hx1.bel x.p hx.lt
  have eop : (t.getD x.p default).op = 11 := hop
  have ea : (t.getD x.p default).a = aA t x.p := rfl
  have eb : (t.getD x.p default).b = bA t x.p := rfl
  rw [eop] at n0
  rw [ea] at n1
  rw [eb] at n2
  have HSt := Lib.hid (stp_give (t := t) (E := envL lf lc) (tu := tu) (x := x) hop)
  have HGi := Lib.hid (fun (w' : World) (h' : RdR w0 w' R Z Q (.slice (some ⟨tb, to', none⟩) t.length tc) tu B qv fv wv td fl ws) (g gc : Nat) (hg : BlS w' R Q qv wv g [kid t x.p 0]) => give_any h' (by omega) x hq (x.p : Nat) g (kid t x.p 0) gc hg.nQ hg.oq (hg.c 0 (by simp)))
  generalize (t.getD x.p default).num = zn at *
  generalize (t.getD x.p default).den = zd at *
  clear h hb hx hop hq c0 hn0 hT eop ea eb hx1 hc hd0 hd1
  generalize aA t x.p = ka at *
  generalize bA t x.p = kb at *
  generalize ((x.q.den : Nat) : Int) = xd at *
  generalize x.q.num = xn at *
  go_enter Tryz.func51, Tryz.ntmps51
  go_upto_region 1 with fail
  generalize w.alloc (.cells #[.int .i64 (x.p : Nat), .int .i64 x.day, .int .i64 xn, .int .i64 xd] 128) = w1 at *
  go_cut [7] (fun u wx => ∃ N, u = .pointer (some ⟨N, 0, none⟩) ∧ (wx.cell? ⟨N, 0, none⟩ = some (.int .i64 11) ∧ wx.cell? ⟨N, 1, none⟩ = some (.int .i64 ka) ∧ wx.cell? ⟨N, 2, none⟩ = some (.int .i64 kb)) ∧ w1.heap.size ≤ N ∧ Below w1.heap.size w1 wx)
  case first =>
    have hd : ∀ w', Below w1.heap.size w1 w' → (w'.cell? ⟨R, 0, none⟩ = some (.slice (some ⟨tb, to', none⟩) t.length tc) ∧ w'.cell? ⟨w.heap.size, 0, none⟩ = some (.int .i64 (x.p : Nat)) ∧ w'.cell? ⟨tb, to' + x.p * 5, none⟩ = some (.int .i64 11) ∧ w'.cell? ⟨tb, to' + x.p * 5 + 1, none⟩ = some (.int .i64 ka) ∧ w'.cell? ⟨tb, to' + x.p * 5 + 2, none⟩ = some (.int .i64 kb) ∧ w'.cell? ⟨tb, to' + x.p * 5 + 3, none⟩ = some (.int .i64 zn) ∧ w'.cell? ⟨tb, to' + x.p * 5 + 4, none⟩ = some (.int .i64 zd)) := fun w' hb => ⟨keepF hb r0, keepF hb x0, keepF hb n0, keepF hb n1, keepF hb n2, keepF hb n3, keepF hb n4⟩
    have ha : ∀ o, Below w1.heap.size w1 (w1.alloc o).drew := fun o => Below.drew (newF w1 o)
    have hs : ∀ (w' : World) (u0 u1 u2 u3 u4 : Value), Below w1.heap.size w1 w' → Below w1.heap.size w1 (((((w'.setCell ⟨w1.heap.size, 0, none⟩ u0).setCell ⟨w1.heap.size, 1, none⟩ u1).setCell ⟨w1.heap.size, 2, none⟩ u2).setCell ⟨w1.heap.size, 3, none⟩ u3).setCell ⟨w1.heap.size, 4, none⟩ u4) := fun w' u0 u1 u2 u3 u4 hb => Below.setCell (Below.setCell (Below.setCell (Below.setCell (Below.setCell hb (Nat.le_refl _) _) (Nat.le_refl _) _) (Nat.le_refl _) _) (Nat.le_refl _) _) (Nat.le_refl _) _
    clear r0 x0 x1 x2 x3 n0 n1 n2 n3 n4
    have hd0 := hd _ (Below.drew (Below.refl _ _))
    go_region_held3 (fun w' => w'.cell? ⟨R, 0, none⟩ = some (.slice (some ⟨tb, to', none⟩) t.length tc) ∧ w'.cell? ⟨w.heap.size, 0, none⟩ = some (.int .i64 (x.p : Nat)) ∧ w'.cell? ⟨tb, to' + x.p * 5, none⟩ = some (.int .i64 11) ∧ w'.cell? ⟨tb, to' + x.p * 5 + 1, none⟩ = some (.int .i64 ka) ∧ w'.cell? ⟨tb, to' + x.p * 5 + 2, none⟩ = some (.int .i64 kb) ∧ w'.cell? ⟨tb, to' + x.p * 5 + 3, none⟩ = some (.int .i64 zn) ∧ w'.cell? ⟨tb, to' + x.p * 5 + 4, none⟩ = some (.int .i64 zd))
      (first | (with_reducible exact hd0) | (with_reducible exact hd _ (ha _)) | exact hd _ (Below.drew (newF w1 _)) | exact hd _ (onF (Below.drew (Below.refl _ _)) (newF _ _)) | exact hd _ (hs _ _ _ _ _ _ (ha _)) | exact hd _ (hs _ _ _ _ _ _ (onF (Below.drew (Below.refl _ _)) (newF _ _))))
      (fail)
    all_goals (try go_wp2)
    all_goals go_meet
    all_goals first
      | exact ⟨_, rfl, ⟨cellN _ _ _ _ _ rfl, cellN _ _ _ _ _ rfl, cellN _ _ _ _ _ rfl⟩, Nat.le_refl _, by first | exact ha _ | exact onF (Below.drew (Below.refl _ _)) (newF _ _)⟩
  case rest =>
  obtain ⟨N, rfl, ⟨m0, m1, m2⟩, hN, hbn⟩ := hcut
  have HX2 := Lib.hid (HX.out.keep hbn)
  have r0 : wc.drew.cell? ⟨R, 0, none⟩ = some (.slice (some ⟨tb, to', none⟩) t.length tc) := keepF (Below.drew hbn) r0
  have x0 : wc.drew.cell? ⟨w.heap.size, 0, none⟩ = some (.int .i64 (x.p : Nat)) := keepF (Below.drew hbn) x0
  have HB2 := Lib.hid (HBl.out wc.drew (Below.drew hbn))
  have HW2 := Lib.hid (And.intro hbn hbn.size)
  have HM := Lib.hid (And.intro m0 (And.intro m1 m2))
  have HNw : Hid (w.heap.size ≤ N) := Lib.hid (Nat.le_trans HWs.out hN)
  clear x1 x2 x3 n0 n1 n2 n3 n4 m0 m1 m2 hbn HBl
  go_upto_region 2 with fail
  go_region_held3 (fun w' => w'.cell? ⟨R, 0, none⟩ = some (.slice (some ⟨tb, to', none⟩) t.length tc) ∧ w'.cell? ⟨w.heap.size, 0, none⟩ = some (.int .i64 (x.p : Nat)))
    (first | (with_reducible exact ⟨r0, x0⟩))
    ((go_at_call 79; (with_reducible refine HB2.out.mono ?_); rintro e w3 ⟨bv, rfl, hbo, hb3⟩; have HBo := Lib.hid hbo; have HB3 : Hid (Below wc.heap.size wc w3) := Lib.hid (onF (Below.drew (Below.refl _ _)) hb3); have r0 := keepF hb3 r0; have x0 := keepF hb3 x0; obtain ⟨ba, bl, bcp, rfl⟩ : ∃ a l c, bv = .slice a l c := (by rcases hbo.reads with ⟨e, _⟩ | ⟨g', c', e, _⟩ <;> exact ⟨_, _, _, e⟩); clear hbo hb3))
  have HX3 := Lib.hid (HX2.out.keep HB3.out)
  have HXc3 := Lib.hid (And.intro (keepF HB3.out (keepF HW2.out.1 HXc.out.1)) (And.intro (keepF HB3.out (keepF HW2.out.1 HXc.out.2.1)) (And.intro (keepF HB3.out (keepF HW2.out.1 HXc.out.2.2.1)) (keepF HB3.out (keepF HW2.out.1 HXc.out.2.2.2)))))
  have m0 := keepF HB3.out HM.out.1
  have m1 := keepF HB3.out HM.out.2.1
  have m2 := keepF HB3.out HM.out.2.2
  obtain ⟨x0, x1, x2, x3⟩ := HXc3.out
  have HW3 : Hid (w.heap.size ≤ wc.drew.heap.size) := Lib.hid (by
    have h1 := HW2.out.2
    have h2 : w.heap.size ≤ w1.heap.size := HWs.out
    exact Nat.le_trans h2 h1)
  clear r0 HX2 HB2 HM
  have hbo := HBo.out
  rw [show cnO 11 = 1 from by decide, pl_kids] at hbo
  obtain ⟨g, gcap, hv, hcap, hg⟩ := bls_own (R := R) (Q := Q) (qv := qv) (wv := wv) hbo (by simp) (fun k hk => HO.out k (Nat.le_trans HW3.out hk))
  have hg : BlS w3 R Q qv wv g [kid t x.p 0] := hg
  have hcap : 1 ≤ gcap := hcap
  have hv : Value.slice ba bl bcp = .slice (some ⟨g, 0, none⟩) 1 gcap := hv
  injection hv with e1 e2 e3
  subst e1 e2 e3
  have HG := Lib.hid hg
  have HCp := Lib.hid hcap
  clear hbo hg hcap HBo
  have HG3 := Lib.hid (HGi.out w3 HX3.out g bcp HG.out)
  clear HGi
  go_wp2_with fail
  refine HG3.out.mono ?_
  rintro e w5 ⟨rfl, hm⟩
  have HM5 := Lib.hid hm
  clear hm x0 x1 x2 x3 m0 m1 m2
  go_wp2_with fail
  go_ret
  rw [HSt.out]
  exact ⟨rfl, by simpa using HM5.out⟩
set_option maxRecDepth 100000 in
set_option maxHeartbeats 4000000 in
theorem do_13 {w0 w : World} {R Z Q : Nat} {tv : Value} {tu : Int} {B bf bc nn : Nat} {Df Dc : DataW Unit} {lf lc : List Fct} {t : List Nd} (hc : CtxD w0 t tv B bf bc nn Df Dc lf lc) {qv fv wv : Value} {td : List Td} {fl : List Flw} {ws : List Wat} (h : RdR w0 w R Z Q tv tu B qv fv wv td fl ws)
    (hl : td.length ≤ 900) (hlf : fl.length ≤ 900) (hlw : ws.length ≤ 40000) (hto : tu ≤ 73048) (x : Td) (hx : CtA t x.p) (hop : opA t x.p = 13) (hq : fitsR x.q = true) (hd0 : 0 ≤ x.day) (hd1 : x.day ≤ 73048) :
    Calls Tryz.prog 51 #[.pointer (some ⟨R, 0, none⟩), .agg #[.int .i64 (x.p : Nat), .int .i64 x.day, .int .i64 x.q.num, .int .i64 ((x.q.den : Nat) : Int)], AcqV Z Q] w fun e w' => DoP w0 R Z Q tv tu B td fl ws e w' (stp t (envL lf lc) tu x) := by
  have hn0 : 0 < t.length := by have := hx.lt; omega
  obtain ⟨tb, to', tc, rfl, htc1, htc2, hT⟩ : ∃ b o cap, tv = .slice (some ⟨b, o, none⟩) t.length cap ∧ t.length ≤ cap ∧ cap ≤ 9223372036854775807 ∧ NdA w0 b o t := by
    rcases hc.sl with ⟨e, _⟩ | ⟨_, b, o, cap, h1, h2, h3, h4⟩
    · rw [e] at hn0; exact absurd hn0 (Nat.lt_irrefl _)
    · exact ⟨b, o, cap, h1, h2, h3, h4⟩
  have hb := newF w (.cells #[.int .i64 (x.p : Nat), .int .i64 x.day, .int .i64 x.q.num, .int .i64 ((x.q.den : Nat) : Int)] 128)
  have hx1 := h.keep hb
  have c0 : ∀ k v, (#[.int .i64 (x.p : Nat), .int .i64 x.day, .int .i64 x.q.num, .int .i64 ((x.q.den : Nat) : Int)] : Array Value)[k]? = some v → (w.alloc (.cells #[.int .i64 (x.p : Nat), .int .i64 x.day, .int .i64 x.q.num, .int .i64 ((x.q.den : Nat) : Int)] 128)).cell? ⟨w.heap.size, k, none⟩ = some v := fun k v hv => by rw [World.cell?_alloc_at _ _ _ _ rfl]; exact hv
  have x0 := c0 0 (.int .i64 (x.p : Nat)) rfl
  have x1 := c0 1 (.int .i64 x.day) rfl
  have x2 := c0 2 (.int .i64 x.q.num) rfl
  have x3 := c0 3 (.int .i64 ((x.q.den : Nat) : Int)) rfl
  have HXc := Lib.hid (And.intro x0 (And.intro x1 (And.intro x2 x3)))
  have HX := Lib.hid hx1
  have r0 := hx1.r0
  have HCx := Lib.hid hc
  have HXa := Lib.hid hx
  have HOp := Lib.hid hop
  have HQ := Lib.hid hq
  have HDy := Lib.hid (And.intro hd0 hd1)
  have HO := Lib.hid (fun (k : Nat) (hk : w.heap.size ≤ k) => (show k ≠ Q ∧ Off qv k ∧ k ≠ R ∧ Off wv k from ⟨by have := h.ltQ; omega, fun e => by have := (h.oq.lt k e).2; omega, by have := h.ltR; omega, fun e => by have := (h.ow.lt k e).2; omega⟩))
  have HWs : Hid (w.heap.size ≤ (w.alloc (.cells #[.int .i64 (x.p : Nat), .int .i64 x.day, .int .i64 x.q.num, .int .i64 ((x.q.den : Nat) : Int)] 128)).heap.size) := Lib.hid hb.size
  have p0 : (0 : Int) ≤ (x.p : Int) := by omega
  have p1 : (x.p : Int) < (t.length : Int) := by have := hx.lt; omega
  have HBl := Lib.hid (fun (w' : World) (hb' : Below (w.alloc (.cells #[.int .i64 (x.p : Nat), .int .i64 x.day, .int .i64 x.q.num, .int .i64 ((x.q.den : Nat) : Int)] 128)).heap.size (w.alloc (.cells #[.int .i64 (x.p : Nat), .int .i64 x.day, .int .i64 x.q.num, .int .i64 ((x.q.den : Nat) : Int)] 128)) w') => below_ok t (by have := hc.len; omega) tb to' tc x.p htc1 htc2 (ok_tm hc.ok hx.lt) w' (NdA.keep hT (hx1.keep hb').bel) (hc.kn.keep (hx1.keep hb').bel))
  rw [hop] at HBl
  obtain ⟨n0, n1, n2, n3, n4⟩ := NdA.keep hT hx1.bel x.p hx.lt
  have eop : (t.getD x.p default).op = 13 := hop
  have ea : (t.getD x.p default).a = aA t x.p := rfl
  have eb : (t.getD x.p default).b = bA t x.p := rfl
  rw [eop] at n0
  rw [ea] at n1
  rw [eb] at n2
  have HSt := Lib.hid (stp_scale (t := t) (E := envL lf lc) (tu := tu) (x := x) hop)
  have HGi := Lib.hid (fun (w' : World) (h' : RdR w0 w' R Z Q (.slice (some ⟨tb, to', none⟩) t.length tc) tu B qv fv wv td fl ws) (g gc : Nat) (hcp : 2 ≤ gc) (hg : BlS w' R Q qv wv g [kid t x.p 0, kid t x.p 1]) => scale_any hc h' (by omega) hlw x hx hop hq hd0 hd1 g gc hcp hg)
  generalize (t.getD x.p default).num = zn at *
  generalize (t.getD x.p default).den = zd at *
  clear h hb hx hop hq c0 hn0 hT eop ea eb hx1 hc hd0 hd1
  generalize aA t x.p = ka at *
  generalize bA t x.p = kb at *
  generalize ((x.q.den : Nat) : Int) = xd at *
  generalize x.q.num = xn at *
  go_enter Tryz.func51, Tryz.ntmps51
  go_upto_region 1 with fail
  generalize w.alloc (.cells #[.int .i64 (x.p : Nat), .int .i64 x.day, .int .i64 xn, .int .i64 xd] 128) = w1 at *
  go_cut [7] (fun u wx => ∃ N, u = .pointer (some ⟨N, 0, none⟩) ∧ (wx.cell? ⟨N, 0, none⟩ = some (.int .i64 13) ∧ wx.cell? ⟨N, 1, none⟩ = some (.int .i64 ka) ∧ wx.cell? ⟨N, 2, none⟩ = some (.int .i64 kb)) ∧ w1.heap.size ≤ N ∧ Below w1.heap.size w1 wx)
  case first =>
    have hd : ∀ w', Below w1.heap.size w1 w' → (w'.cell? ⟨R, 0, none⟩ = some (.slice (some ⟨tb, to', none⟩) t.length tc) ∧ w'.cell? ⟨w.heap.size, 0, none⟩ = some (.int .i64 (x.p : Nat)) ∧ w'.cell? ⟨tb, to' + x.p * 5, none⟩ = some (.int .i64 13) ∧ w'.cell? ⟨tb, to' + x.p * 5 + 1, none⟩ = some (.int .i64 ka) ∧ w'.cell? ⟨tb, to' + x.p * 5 + 2, none⟩ = some (.int .i64 kb) ∧ w'.cell? ⟨tb, to' + x.p * 5 + 3, none⟩ = some (.int .i64 zn) ∧ w'.cell? ⟨tb, to' + x.p * 5 + 4, none⟩ = some (.int .i64 zd)) := fun w' hb => ⟨keepF hb r0, keepF hb x0, keepF hb n0, keepF hb n1, keepF hb n2, keepF hb n3, keepF hb n4⟩
    have ha : ∀ o, Below w1.heap.size w1 (w1.alloc o).drew := fun o => Below.drew (newF w1 o)
    have hs : ∀ (w' : World) (u0 u1 u2 u3 u4 : Value), Below w1.heap.size w1 w' → Below w1.heap.size w1 (((((w'.setCell ⟨w1.heap.size, 0, none⟩ u0).setCell ⟨w1.heap.size, 1, none⟩ u1).setCell ⟨w1.heap.size, 2, none⟩ u2).setCell ⟨w1.heap.size, 3, none⟩ u3).setCell ⟨w1.heap.size, 4, none⟩ u4) := fun w' u0 u1 u2 u3 u4 hb => Below.setCell (Below.setCell (Below.setCell (Below.setCell (Below.setCell hb (Nat.le_refl _) _) (Nat.le_refl _) _) (Nat.le_refl _) _) (Nat.le_refl _) _) (Nat.le_refl _) _
    clear r0 x0 x1 x2 x3 n0 n1 n2 n3 n4
    have hd0 := hd _ (Below.drew (Below.refl _ _))
    go_region_held3 (fun w' => w'.cell? ⟨R, 0, none⟩ = some (.slice (some ⟨tb, to', none⟩) t.length tc) ∧ w'.cell? ⟨w.heap.size, 0, none⟩ = some (.int .i64 (x.p : Nat)) ∧ w'.cell? ⟨tb, to' + x.p * 5, none⟩ = some (.int .i64 13) ∧ w'.cell? ⟨tb, to' + x.p * 5 + 1, none⟩ = some (.int .i64 ka) ∧ w'.cell? ⟨tb, to' + x.p * 5 + 2, none⟩ = some (.int .i64 kb) ∧ w'.cell? ⟨tb, to' + x.p * 5 + 3, none⟩ = some (.int .i64 zn) ∧ w'.cell? ⟨tb, to' + x.p * 5 + 4, none⟩ = some (.int .i64 zd))
      (first | (with_reducible exact hd0) | (with_reducible exact hd _ (ha _)) | exact hd _ (Below.drew (newF w1 _)) | exact hd _ (onF (Below.drew (Below.refl _ _)) (newF _ _)) | exact hd _ (hs _ _ _ _ _ _ (ha _)) | exact hd _ (hs _ _ _ _ _ _ (onF (Below.drew (Below.refl _ _)) (newF _ _))))
      (fail)
    all_goals (try go_wp2)
    all_goals go_meet
    all_goals first
      | exact ⟨_, rfl, ⟨cellN _ _ _ _ _ rfl, cellN _ _ _ _ _ rfl, cellN _ _ _ _ _ rfl⟩, Nat.le_refl _, by first | exact ha _ | exact onF (Below.drew (Below.refl _ _)) (newF _ _)⟩
  case rest =>
  obtain ⟨N, rfl, ⟨m0, m1, m2⟩, hN, hbn⟩ := hcut
  have HX2 := Lib.hid (HX.out.keep hbn)
  have r0 : wc.drew.cell? ⟨R, 0, none⟩ = some (.slice (some ⟨tb, to', none⟩) t.length tc) := keepF (Below.drew hbn) r0
  have x0 : wc.drew.cell? ⟨w.heap.size, 0, none⟩ = some (.int .i64 (x.p : Nat)) := keepF (Below.drew hbn) x0
  have HB2 := Lib.hid (HBl.out wc.drew (Below.drew hbn))
  have HW2 := Lib.hid (And.intro hbn hbn.size)
  have HM := Lib.hid (And.intro m0 (And.intro m1 m2))
  have HNw : Hid (w.heap.size ≤ N) := Lib.hid (Nat.le_trans HWs.out hN)
  clear x1 x2 x3 n0 n1 n2 n3 n4 m0 m1 m2 hbn HBl
  go_upto_region 2 with fail
  go_region_held3 (fun w' => w'.cell? ⟨R, 0, none⟩ = some (.slice (some ⟨tb, to', none⟩) t.length tc) ∧ w'.cell? ⟨w.heap.size, 0, none⟩ = some (.int .i64 (x.p : Nat)))
    (first | (with_reducible exact ⟨r0, x0⟩))
    ((go_at_call 79; (with_reducible refine HB2.out.mono ?_); rintro e w3 ⟨bv, rfl, hbo, hb3⟩; have HBo := Lib.hid hbo; have HB3 : Hid (Below wc.heap.size wc w3) := Lib.hid (onF (Below.drew (Below.refl _ _)) hb3); have r0 := keepF hb3 r0; have x0 := keepF hb3 x0; obtain ⟨ba, bl, bcp, rfl⟩ : ∃ a l c, bv = .slice a l c := (by rcases hbo.reads with ⟨e, _⟩ | ⟨g', c', e, _⟩ <;> exact ⟨_, _, _, e⟩); clear hbo hb3))
  have HX3 := Lib.hid (HX2.out.keep HB3.out)
  have HXc3 := Lib.hid (And.intro (keepF HB3.out (keepF HW2.out.1 HXc.out.1)) (And.intro (keepF HB3.out (keepF HW2.out.1 HXc.out.2.1)) (And.intro (keepF HB3.out (keepF HW2.out.1 HXc.out.2.2.1)) (keepF HB3.out (keepF HW2.out.1 HXc.out.2.2.2)))))
  have m0 := keepF HB3.out HM.out.1
  have m1 := keepF HB3.out HM.out.2.1
  have m2 := keepF HB3.out HM.out.2.2
  obtain ⟨x0, x1, x2, x3⟩ := HXc3.out
  have HW3 : Hid (w.heap.size ≤ wc.drew.heap.size) := Lib.hid (by
    have h1 := HW2.out.2
    have h2 : w.heap.size ≤ w1.heap.size := HWs.out
    exact Nat.le_trans h2 h1)
  clear r0 HX2 HB2 HM
  have hbo := HBo.out
  rw [show cnO 13 = 2 from by decide, pl_kids] at hbo
  obtain ⟨g, gcap, hv, hcap, hg⟩ := bls_own (R := R) (Q := Q) (qv := qv) (wv := wv) hbo (by simp) (fun k hk => HO.out k (Nat.le_trans HW3.out hk))
  have hg : BlS w3 R Q qv wv g [kid t x.p 0, kid t x.p 1] := hg
  have hcap : 2 ≤ gcap := hcap
  have hv : Value.slice ba bl bcp = .slice (some ⟨g, 0, none⟩) 2 gcap := hv
  injection hv with e1 e2 e3
  subst e1 e2 e3
  have HG := Lib.hid hg
  have HCp := Lib.hid hcap
  clear hbo hg hcap HBo
  have HG3 := Lib.hid (HGi.out w3 HX3.out g bcp HCp.out HG.out)
  clear HGi
  go_wp2_with fail
  refine HG3.out.mono ?_
  rintro e w5 hm
  have HM5 := Lib.hid hm
  clear hm x0 x1 x2 x3 m0 m1 m2
  obtain ⟨er, rfl⟩ : ∃ er, e = .returned (.int .i64 er) := HM5.out.shape
  go_wp2_with fail
  go_ret
  exact HM5.out
set_option maxRecDepth 100000 in
set_option maxHeartbeats 4000000 in
theorem do_15 {w0 w : World} {R Z Q : Nat} {tv : Value} {tu : Int} {B bf bc nn : Nat} {Df Dc : DataW Unit} {lf lc : List Fct} {t : List Nd} (hc : CtxD w0 t tv B bf bc nn Df Dc lf lc) {qv fv wv : Value} {td : List Td} {fl : List Flw} {ws : List Wat} (h : RdR w0 w R Z Q tv tu B qv fv wv td fl ws)
    (hl : td.length ≤ 900) (hlf : fl.length ≤ 900) (hlw : ws.length ≤ 40000) (hto : tu ≤ 73048) (x : Td) (hx : CtA t x.p) (hop : opA t x.p = 15) (hq : fitsR x.q = true) (hd0 : 0 ≤ x.day) (hd1 : x.day ≤ 73048) :
    Calls Tryz.prog 51 #[.pointer (some ⟨R, 0, none⟩), .agg #[.int .i64 (x.p : Nat), .int .i64 x.day, .int .i64 x.q.num, .int .i64 ((x.q.den : Nat) : Int)], AcqV Z Q] w fun e w' => DoP w0 R Z Q tv tu B td fl ws e w' (stp t (envL lf lc) tu x) := by
  have hn0 : 0 < t.length := by have := hx.lt; omega
  obtain ⟨tb, to', tc, rfl, htc1, htc2, hT⟩ : ∃ b o cap, tv = .slice (some ⟨b, o, none⟩) t.length cap ∧ t.length ≤ cap ∧ cap ≤ 9223372036854775807 ∧ NdA w0 b o t := by
    rcases hc.sl with ⟨e, _⟩ | ⟨_, b, o, cap, h1, h2, h3, h4⟩
    · rw [e] at hn0; exact absurd hn0 (Nat.lt_irrefl _)
    · exact ⟨b, o, cap, h1, h2, h3, h4⟩
  have hb := newF w (.cells #[.int .i64 (x.p : Nat), .int .i64 x.day, .int .i64 x.q.num, .int .i64 ((x.q.den : Nat) : Int)] 128)
  have hx1 := h.keep hb
  have c0 : ∀ k v, (#[.int .i64 (x.p : Nat), .int .i64 x.day, .int .i64 x.q.num, .int .i64 ((x.q.den : Nat) : Int)] : Array Value)[k]? = some v → (w.alloc (.cells #[.int .i64 (x.p : Nat), .int .i64 x.day, .int .i64 x.q.num, .int .i64 ((x.q.den : Nat) : Int)] 128)).cell? ⟨w.heap.size, k, none⟩ = some v := fun k v hv => by rw [World.cell?_alloc_at _ _ _ _ rfl]; exact hv
  have x0 := c0 0 (.int .i64 (x.p : Nat)) rfl
  have x1 := c0 1 (.int .i64 x.day) rfl
  have x2 := c0 2 (.int .i64 x.q.num) rfl
  have x3 := c0 3 (.int .i64 ((x.q.den : Nat) : Int)) rfl
  have HXc := Lib.hid (And.intro x0 (And.intro x1 (And.intro x2 x3)))
  have HX := Lib.hid hx1
  have r0 := hx1.r0
  have HCx := Lib.hid hc
  have HXa := Lib.hid hx
  have HOp := Lib.hid hop
  have HQ := Lib.hid hq
  have HDy := Lib.hid (And.intro hd0 hd1)
  have HO := Lib.hid (fun (k : Nat) (hk : w.heap.size ≤ k) => (show k ≠ Q ∧ Off qv k ∧ k ≠ R ∧ Off wv k from ⟨by have := h.ltQ; omega, fun e => by have := (h.oq.lt k e).2; omega, by have := h.ltR; omega, fun e => by have := (h.ow.lt k e).2; omega⟩))
  have HWs : Hid (w.heap.size ≤ (w.alloc (.cells #[.int .i64 (x.p : Nat), .int .i64 x.day, .int .i64 x.q.num, .int .i64 ((x.q.den : Nat) : Int)] 128)).heap.size) := Lib.hid hb.size
  have p0 : (0 : Int) ≤ (x.p : Int) := by omega
  have p1 : (x.p : Int) < (t.length : Int) := by have := hx.lt; omega
  have HBl := Lib.hid (fun (w' : World) (hb' : Below (w.alloc (.cells #[.int .i64 (x.p : Nat), .int .i64 x.day, .int .i64 x.q.num, .int .i64 ((x.q.den : Nat) : Int)] 128)).heap.size (w.alloc (.cells #[.int .i64 (x.p : Nat), .int .i64 x.day, .int .i64 x.q.num, .int .i64 ((x.q.den : Nat) : Int)] 128)) w') => below_ok t (by have := hc.len; omega) tb to' tc x.p htc1 htc2 (ok_tm hc.ok hx.lt) w' (NdA.keep hT (hx1.keep hb').bel) (hc.kn.keep (hx1.keep hb').bel))
  rw [hop] at HBl
  obtain ⟨n0, n1, n2, n3, n4⟩ := NdA.keep hT hx1.bel x.p hx.lt
  have eop : (t.getD x.p default).op = 15 := hop
  have ea : (t.getD x.p default).a = aA t x.p := rfl
  have eb : (t.getD x.p default).b = bA t x.p := rfl
  rw [eop] at n0
  rw [ea] at n1
  rw [eb] at n2
  have HSt := Lib.hid (stp_cond (t := t) (E := envL lf lc) (tu := tu) (x := x) hop)
  have HGi := Lib.hid (fun (w' : World) (h' : RdR w0 w' R Z Q (.slice (some ⟨tb, to', none⟩) t.length tc) tu B qv fv wv td fl ws) (g gc : Nat) (hcp : 4 ≤ gc) (hg : BlS w' R Q qv wv g [kid t x.p 0, kid t x.p 1, kid t x.p 2, kid t x.p 3]) => decide_any hc h' (by omega) hlw x hx hop hq hd0 hd1 g gc hcp hg)
  generalize (t.getD x.p default).num = zn at *
  generalize (t.getD x.p default).den = zd at *
  clear h hb hx hop hq c0 hn0 hT eop ea eb hx1 hc hd0 hd1
  generalize aA t x.p = ka at *
  generalize bA t x.p = kb at *
  generalize ((x.q.den : Nat) : Int) = xd at *
  generalize x.q.num = xn at *
  go_enter Tryz.func51, Tryz.ntmps51
  go_upto_region 1 with fail
  generalize w.alloc (.cells #[.int .i64 (x.p : Nat), .int .i64 x.day, .int .i64 xn, .int .i64 xd] 128) = w1 at *
  go_cut [7] (fun u wx => ∃ N, u = .pointer (some ⟨N, 0, none⟩) ∧ (wx.cell? ⟨N, 0, none⟩ = some (.int .i64 15) ∧ wx.cell? ⟨N, 1, none⟩ = some (.int .i64 ka) ∧ wx.cell? ⟨N, 2, none⟩ = some (.int .i64 kb)) ∧ w1.heap.size ≤ N ∧ Below w1.heap.size w1 wx)
  case first =>
    have hd : ∀ w', Below w1.heap.size w1 w' → (w'.cell? ⟨R, 0, none⟩ = some (.slice (some ⟨tb, to', none⟩) t.length tc) ∧ w'.cell? ⟨w.heap.size, 0, none⟩ = some (.int .i64 (x.p : Nat)) ∧ w'.cell? ⟨tb, to' + x.p * 5, none⟩ = some (.int .i64 15) ∧ w'.cell? ⟨tb, to' + x.p * 5 + 1, none⟩ = some (.int .i64 ka) ∧ w'.cell? ⟨tb, to' + x.p * 5 + 2, none⟩ = some (.int .i64 kb) ∧ w'.cell? ⟨tb, to' + x.p * 5 + 3, none⟩ = some (.int .i64 zn) ∧ w'.cell? ⟨tb, to' + x.p * 5 + 4, none⟩ = some (.int .i64 zd)) := fun w' hb => ⟨keepF hb r0, keepF hb x0, keepF hb n0, keepF hb n1, keepF hb n2, keepF hb n3, keepF hb n4⟩
    have ha : ∀ o, Below w1.heap.size w1 (w1.alloc o).drew := fun o => Below.drew (newF w1 o)
    have hs : ∀ (w' : World) (u0 u1 u2 u3 u4 : Value), Below w1.heap.size w1 w' → Below w1.heap.size w1 (((((w'.setCell ⟨w1.heap.size, 0, none⟩ u0).setCell ⟨w1.heap.size, 1, none⟩ u1).setCell ⟨w1.heap.size, 2, none⟩ u2).setCell ⟨w1.heap.size, 3, none⟩ u3).setCell ⟨w1.heap.size, 4, none⟩ u4) := fun w' u0 u1 u2 u3 u4 hb => Below.setCell (Below.setCell (Below.setCell (Below.setCell (Below.setCell hb (Nat.le_refl _) _) (Nat.le_refl _) _) (Nat.le_refl _) _) (Nat.le_refl _) _) (Nat.le_refl _) _
    clear r0 x0 x1 x2 x3 n0 n1 n2 n3 n4
    have hd0 := hd _ (Below.drew (Below.refl _ _))
    go_region_held3 (fun w' => w'.cell? ⟨R, 0, none⟩ = some (.slice (some ⟨tb, to', none⟩) t.length tc) ∧ w'.cell? ⟨w.heap.size, 0, none⟩ = some (.int .i64 (x.p : Nat)) ∧ w'.cell? ⟨tb, to' + x.p * 5, none⟩ = some (.int .i64 15) ∧ w'.cell? ⟨tb, to' + x.p * 5 + 1, none⟩ = some (.int .i64 ka) ∧ w'.cell? ⟨tb, to' + x.p * 5 + 2, none⟩ = some (.int .i64 kb) ∧ w'.cell? ⟨tb, to' + x.p * 5 + 3, none⟩ = some (.int .i64 zn) ∧ w'.cell? ⟨tb, to' + x.p * 5 + 4, none⟩ = some (.int .i64 zd))
      (first | (with_reducible exact hd0) | (with_reducible exact hd _ (ha _)) | exact hd _ (Below.drew (newF w1 _)) | exact hd _ (onF (Below.drew (Below.refl _ _)) (newF _ _)) | exact hd _ (hs _ _ _ _ _ _ (ha _)) | exact hd _ (hs _ _ _ _ _ _ (onF (Below.drew (Below.refl _ _)) (newF _ _))))
      (fail)
    all_goals (try go_wp2)
    all_goals go_meet
    all_goals first
      | exact ⟨_, rfl, ⟨cellN _ _ _ _ _ rfl, cellN _ _ _ _ _ rfl, cellN _ _ _ _ _ rfl⟩, Nat.le_refl _, by first | exact ha _ | exact onF (Below.drew (Below.refl _ _)) (newF _ _)⟩
  case rest =>
  obtain ⟨N, rfl, ⟨m0, m1, m2⟩, hN, hbn⟩ := hcut
  have HX2 := Lib.hid (HX.out.keep hbn)
  have r0 : wc.drew.cell? ⟨R, 0, none⟩ = some (.slice (some ⟨tb, to', none⟩) t.length tc) := keepF (Below.drew hbn) r0
  have x0 : wc.drew.cell? ⟨w.heap.size, 0, none⟩ = some (.int .i64 (x.p : Nat)) := keepF (Below.drew hbn) x0
  have HB2 := Lib.hid (HBl.out wc.drew (Below.drew hbn))
  have HW2 := Lib.hid (And.intro hbn hbn.size)
  have HM := Lib.hid (And.intro m0 (And.intro m1 m2))
  have HNw : Hid (w.heap.size ≤ N) := Lib.hid (Nat.le_trans HWs.out hN)
  clear x1 x2 x3 n0 n1 n2 n3 n4 m0 m1 m2 hbn HBl
  go_upto_region 2 with fail
  go_region_held3 (fun w' => w'.cell? ⟨R, 0, none⟩ = some (.slice (some ⟨tb, to', none⟩) t.length tc) ∧ w'.cell? ⟨w.heap.size, 0, none⟩ = some (.int .i64 (x.p : Nat)))
    (first | (with_reducible exact ⟨r0, x0⟩))
    ((go_at_call 79; (with_reducible refine HB2.out.mono ?_); rintro e w3 ⟨bv, rfl, hbo, hb3⟩; have HBo := Lib.hid hbo; have HB3 : Hid (Below wc.heap.size wc w3) := Lib.hid (onF (Below.drew (Below.refl _ _)) hb3); have r0 := keepF hb3 r0; have x0 := keepF hb3 x0; obtain ⟨ba, bl, bcp, rfl⟩ : ∃ a l c, bv = .slice a l c := (by rcases hbo.reads with ⟨e, _⟩ | ⟨g', c', e, _⟩ <;> exact ⟨_, _, _, e⟩); clear hbo hb3))
  have HX3 := Lib.hid (HX2.out.keep HB3.out)
  have HXc3 := Lib.hid (And.intro (keepF HB3.out (keepF HW2.out.1 HXc.out.1)) (And.intro (keepF HB3.out (keepF HW2.out.1 HXc.out.2.1)) (And.intro (keepF HB3.out (keepF HW2.out.1 HXc.out.2.2.1)) (keepF HB3.out (keepF HW2.out.1 HXc.out.2.2.2)))))
  have m0 := keepF HB3.out HM.out.1
  have m1 := keepF HB3.out HM.out.2.1
  have m2 := keepF HB3.out HM.out.2.2
  obtain ⟨x0, x1, x2, x3⟩ := HXc3.out
  have HW3 : Hid (w.heap.size ≤ wc.drew.heap.size) := Lib.hid (by
    have h1 := HW2.out.2
    have h2 : w.heap.size ≤ w1.heap.size := HWs.out
    exact Nat.le_trans h2 h1)
  clear r0 HX2 HB2 HM
  have hbo := HBo.out
  rw [show cnO 15 = 4 from by decide, pl_kids] at hbo
  obtain ⟨g, gcap, hv, hcap, hg⟩ := bls_own (R := R) (Q := Q) (qv := qv) (wv := wv) hbo (by simp) (fun k hk => HO.out k (Nat.le_trans HW3.out hk))
  have hg : BlS w3 R Q qv wv g [kid t x.p 0, kid t x.p 1, kid t x.p 2, kid t x.p 3] := hg
  have hcap : 4 ≤ gcap := hcap
  have hv : Value.slice ba bl bcp = .slice (some ⟨g, 0, none⟩) 4 gcap := hv
  injection hv with e1 e2 e3
  subst e1 e2 e3
  have HG := Lib.hid hg
  have HCp := Lib.hid hcap
  clear hbo hg hcap HBo
  have HG3 := Lib.hid (HGi.out w3 HX3.out g bcp HCp.out HG.out)
  clear HGi
  go_wp2_with fail
  refine HG3.out.mono ?_
  rintro e w5 hm
  have HM5 := Lib.hid hm
  clear hm x0 x1 x2 x3 m0 m1 m2
  obtain ⟨er, rfl⟩ : ∃ er, e = .returned (.int .i64 er) := HM5.out.shape
  go_wp2_with fail
  go_ret
  exact HM5.out

end Go.Proofs.YtgeneoamngfomaaGreatDoor

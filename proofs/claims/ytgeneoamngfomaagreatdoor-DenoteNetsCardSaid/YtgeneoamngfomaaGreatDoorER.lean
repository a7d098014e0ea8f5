/-
  Package denote: goThrough: what it answers.
-/
import Derived.Test.YtgeneoamngfomaaGreatDoorEnQ
import Derived.Test.YtgeneoamngfomaaGreatDoorEA
import Derived.Test.YtgeneoamngfomaaGreatDoorTrm
namespace Go.Proofs.YtgeneoamngfomaaGreatDoor
open Go.RowKit Go.Lib Go.Maps
set_option linter.unusedVariables false
set_option linter.unusedSimpArgs false

theorem do_any {w0 w : World} {R Z Q : Nat} {tv : Value} {tu : Int} {B bf bc nn : Nat} {Df Dc : DataW Unit} {lf lc : List Fct} {t : List Nd} (hc : CtxD w0 t tv B bf bc nn Df Dc lf lc) {qv fv wv : Value} {td : List Td} {fl : List Flw} {ws : List Wat} (h : RdR w0 w R Z Q tv tu B qv fv wv td fl ws)
    (hl : td.length ≤ 900) (hlf : fl.length ≤ 900) (hlw : ws.length ≤ 40000) (hto : tu ≤ 73048) (x : Td) (hx : CtA t x.p) (hq : fitsR x.q = true) (hd0 : 0 ≤ x.day) (hd1 : x.day ≤ 73048) :
    Calls Tryz.prog 51 #[.pointer (some ⟨R, 0, none⟩), .agg #[.int .i64 (x.p : Nat), .int .i64 x.day, .int .i64 x.q.num, .int .i64 ((x.q.den : Nat) : Int)], AcqV Z Q] w fun e w' => DoP w0 R Z Q tv tu B td fl ws e w' (stp t (envL lf lc) tu x) := by
  obtain ⟨h1, h2⟩ := ct_op hx.mc
  rcases (show opA t x.p = 9 ∨ opA t x.p = 10 ∨ opA t x.p = 11 ∨ opA t x.p = 12 ∨ opA t x.p = 13 ∨ opA t x.p = 14 ∨ opA t x.p = 15 ∨ opA t x.p = 16 ∨ opA t x.p = 17 by omega) with e | e | e | e | e | e | e | e | e
  · exact do_9 hc h hl hlf hlw hto x hx e hq hd0 hd1
  · exact do_10 hc h hl hlf hlw hto x hx e hq hd0 hd1
  · exact do_11 hc h hl hlf hlw hto x hx e hq hd0 hd1
  · exact do_12 hc h hl hlf hlw hto x hx e hq hd0 hd1
  · exact do_13 hc h hl hlf hlw hto x hx e hq hd0 hd1
  · exact do_14 hc h hl hlf hlw hto x hx e hq hd0 hd1
  · exact do_15 hc h hl hlf hlw hto x hx e hq hd0 hd1
  · exact do_16 hc h hl hlf hlw hto x hx e hq hd0 hd1
  · exact do_17 hc h hl hlf hlw hto x hx e hq hd0 hd1
theorem env_ok {w : World} {t : List Nd} {tv : Value} {B bf bc nn : Nat} {Df Dc : DataW Unit} {lf lc : List Fct} (h : CtxD w t tv B bf bc nn Df Dc lf lc) : (envL lf lc).Ok where
  fits := fun d k r hr => fx_fits h.of d k r hr
  pick := env_pick h
  first := fun k f u d hd => by
    obtain ⟨t, ht, rfl⟩ := Option.map_eq_some_iff.1 (show (lc.find? (isH k f u 1)).map (fun t => t.d) = some d from hd)
    have := isH_iff.1 (List.find?_some ht)
    exact ⟨this.2.1, this.2.2.1⟩

/-- The first one that is acquired: there is no reading yet. -/
structure Qu0 (w0 w : World) (Z Q : Nat) (tu : Int) (qv : Value) (td : List Td) : Prop where
  z : w.cell? ⟨Z, 0, none⟩ = some (.int .i64 tu)
  q : w.cell? ⟨Q, 0, none⟩ = some qv
  fq : w.frozen? ⟨Q, 0, none⟩ = false
  oq : OwnX tdL 4 128 w w0.heap.size qv td
  qZ : Off qv Z
  qQ : Off qv Q
  nZQ : Z ≠ Q
  bQ : w0.heap.size ≤ Q
  bel : Below w0.heap.size w0 w
set_option maxRecDepth 100000 in
theorem acq0_any {w0 w : World} {Z Q : Nat} {tu : Int} (h : Qu0 w0 w Z Q tu (.slice none 0 0) []) (x : Td) (p n d : Int) (ep : p = (x.p : Nat)) (en : n = x.q.num) (ed : d = ((x.q.den : Nat) : Int)) (day : Int) (ey : day = x.day) :
    Calls Tryz.prog 50 #[.agg #[.int .i64 p, .int .i64 day, .int .i64 n, .int .i64 d], .pointer (some ⟨Z, 0, none⟩), .pointer (some ⟨Q, 0, none⟩)] w fun e w' => e = .returned (.tuple #[]) ∧ (∃ qv', Qu0 w0 w' Z Q tu qv' (acqL tu x)) ∧ Lets Q (.slice none 0 0) w w' := by
  have hb := newF w (.cells #[.int .i64 p, .int .i64 day, .int .i64 n, .int .i64 d] 128)
  have zc := keepF hb h.z
  have qc := keepF hb h.q
  have fq := (hb.frozen (p := ⟨Q, 0, none⟩) (ltF h.q)).trans h.fq
  have c0 : ∀ k v, (#[.int .i64 p, .int .i64 day, .int .i64 n, .int .i64 d] : Array Value)[k]? = some v → (w.alloc (.cells #[.int .i64 p, .int .i64 day, .int .i64 n, .int .i64 d] 128)).cell? ⟨w.heap.size, k, none⟩ = some v := fun k v hv => by rw [World.cell?_alloc_at _ _ _ _ rfl]; exact hv
  have x0 := c0 0 (.int .i64 p) rfl
  have x1 := c0 1 (.int .i64 day) rfl
  have x2 := c0 2 (.int .i64 n) rfl
  have x3 := c0 3 (.int .i64 d) rfl
  have HH := Lib.hid h
  have HN := Lib.hid hb
  have HE : Hid (tdL x = [.int .i64 p, .int .i64 day, .int .i64 n, .int .i64 d]) := Lib.hid (by unfold tdL; rw [ep, en, ed, ey])
  have HY := Lib.hid ey
  have HQl := Lib.hid (And.intro (ltF h.q) (ltF h.z))
  have HZc := Lib.hid (And.intro zc (And.intro qc fq))
  clear h ep en ed ey c0 hb
  unfold acqL
  rw [← HY.out]
  by_cases hd : day ≤ tu
  · rw [if_pos hd]
    go_enter Tryz.func50, Tryz.ntmps50
    go_upto_region 2 with fail
    generalize w.alloc (.cells #[.int .i64 p, .int .i64 day, .int .i64 n, .int .i64 d] 128) = w1 at *
    go_wp2_with (at_builtin; refine wpList_append_x (E := tdL) (k := 4) (fun _ => rfl) (by decide) tdL_one Tryz.underlying126 infoTd rfl (by decide) rfl _ _ rfl w0.heap.size (.slice none 0 0) [] rfl (OwnX.nil _ _ _ _ _) _ [x] rfl (rowx_new (E := tdL) (k := 4) (fun _ => rfl) w1 x #[.int .i64 p, .int .i64 day, .int .i64 n, .int .i64 d] (by rw [HE.out]) 128 _ rfl) (by simp) (by have := HH.out.bel.size; have := HN.out.size; simp; omega) ?_; intro v' w5 hown' hgrow hat; have hb1 := onF HN.out (newF w1 (.cells #[.int .i64 p, .int .i64 day, .int .i64 n, .int .i64 d] 128)); have hbl : w.heap.size ≤ (w1.alloc (.cells #[.int .i64 p, .int .i64 day, .int .i64 n, .int .i64 d] 128)).heap.size := hb1.size; have HLt : Hid (Lets Q (.slice none 0 0) w (w5.setCell ⟨Q, 0, none⟩ v')) := Lib.hid (lets_put HN.out (newF w1 _) hgrow); have hoff : ∀ k, k < w.heap.size → Off v' k := fun k hk e => (by rcases hat with h | h <;> rw [h] at e; cases e; injection e with e; omega); have HP : Hid (Qu0 w0 (w5.setCell ⟨Q, 0, none⟩ v') Z Q tu v' [x]) := Lib.hid ⟨setB (cellB hgrow (keepF hb1 HH.out.z) (by intro e; cases e)) (.inl HH.out.nZQ.symm), cell_same (cellB hgrow (keepF hb1 HH.out.q) (by intro e; cases e)), (by rw [World.frozen?_setCell, frozB hgrow (Nat.lt_of_lt_of_le HQl.out.1 hbl) (by intro e; cases e)]; exact (hb1.frozen (p := ⟨Q, 0, none⟩) HQl.out.1).trans HH.out.fq), (OwnX.kept (t := [x]) hown' (grownBy_set w5 Q 0 v') (hoff Q HQl.out.1).row), hoff Z HQl.out.2, hoff Q HQl.out.1, HH.out.nZQ, HH.out.bQ, Below.setCell ((HH.out.bel.trans (hb1.mono HH.out.bel.size)).grown hgrow (Nat.le_trans HH.out.bel.size hbl) (fun k hk => by cases hk)) HH.out.bQ _⟩; have qc5 := cellB hgrow (keepF hb1 HH.out.q) (by intro e; cases e); have fq5 := (frozB (i := 0) hgrow (Nat.lt_of_lt_of_le HQl.out.1 hbl) (by intro e; cases e)).trans ((hb1.frozen (p := ⟨Q, 0, none⟩) HQl.out.1).trans HH.out.fq); obtain ⟨sb, sd, rfl⟩ := hown'.slice; clear hown' hgrow hat hb1 hbl hoff)
    go_wp2_with fail
    go_end0
    exact ⟨rfl, ⟨_, HP.out⟩, HLt.out⟩
  · rw [if_neg hd]
    go_enter Tryz.func50, Tryz.ntmps50
    go_wp2_with fail
    go_end0
    exact ⟨rfl, ⟨_, ⟨HZc.out.1, HZc.out.2.1, HZc.out.2.2, OwnX.nil _ _ _ _ _, HH.out.qZ, HH.out.qQ, HH.out.nZQ, HH.out.bQ, HH.out.bel.trans (HN.out.mono HH.out.bel.size)⟩⟩, fun k hk _ _ => HN.out.block k hk⟩

end Go.Proofs.YtgeneoamngfomaaGreatDoor

namespace Go.Proofs.YtgeneoamngfomaaGreatDoor
open Go.RowKit Go.Lib Go.Maps
set_option linter.unusedVariables false
set_option linter.unusedSimpArgs false

theorem askW_len (t : List Nd) (E : Env) (d : Int) (p : Nat) : (askW t E d p).length ≤ 64 := by
  have h1 : askW t E d p = askK E d (kyU t p) := rfl
  have h2 := askK_len E d (kyU t p)
  have h3 : (kyU t p).length ≤ 64 := kyN_len _ _ _
  rw [h1]; omega
theorem stp_waits {t : List Nd} {E : Env} {tu : Int} {x : Td} {ts : List Td} {fl : List Flw} {ws : List Wat} (hs : stp t E tu x = some (ts, fl, ws)) : ws.length ≤ 128 := by
  have h0 := askW_len t E x.day (kid t x.p 0)
  have h1 := askW_len t E x.day (kid t x.p 1)
  have key : ∀ {a b c}, (some (a, b, c) : Option (List Td × List Flw × List Wat)) = some (ts, fl, ws) → c.length ≤ 128 → ws.length ≤ 128 := fun e hb => by
    have e2 := congrArg (fun o : Option (List Td × List Flw × List Wat) => (o.map fun r => r.2.2).getD []) e
    have e3 : _ = ws := e2
    rw [← e3]; exact hb
  have a2 : (askW t E x.day (kid t x.p 0) ++ askW t E x.day (kid t x.p 1)).length ≤ 128 := by rw [List.length_append]; exact Nat.add_le_add h0 h1
  have n0 : ([] : List Wat).length ≤ 128 := by simp
  by_cases c : opA t x.p = 10
  · rw [stp_one c] at hs; exact key hs n0
  by_cases c : opA t x.p = 11
  · rw [stp_give c] at hs; exact key hs n0
  by_cases c : opA t x.p = 12
  · rw [stp_and c] at hs; exact key hs n0
  by_cases c : opA t x.p = 13
  · rw [stp_scale c] at hs
    cases hv : vlA t (E.fx x.day) (kid t x.p 0) with
    | none => rw [hv] at hs; cases hs
    | some v =>
      rw [hv] at hs
      cases v with
      | none => exact key hs (Nat.le_trans h0 (by decide))
      | some v =>
        dsimp only at hs
        by_cases f : fitsR (x.q * v) = true
        · rw [if_pos f] at hs; exact key hs n0
        · rw [if_neg f] at hs; cases hs
  by_cases c : opA t x.p = 14
  · rw [stp_when c] at hs; exact key hs n0
  by_cases c : opA t x.p = 15
  · rw [stp_cond c] at hs
    cases hv : vlA t (E.fx x.day) (kid t x.p 0) with
    | none => rw [hv] at hs; cases hs
    | some v =>
      cases hu : vlA t (E.fx x.day) (kid t x.p 1) with
      | none => rw [hv, hu] at hs; cases hs
      | some u =>
        rw [hv, hu] at hs
        cases v with
        | none =>
          cases u with
          | none => exact key hs a2
          | some u => exact key hs a2
        | some v =>
          cases u with
          | none => exact key hs a2
          | some u => exact key hs n0
  by_cases c : opA t x.p = 16
  · rw [stp_or c] at hs
    by_cases f : E.ch (aA t x.p) x.day = 1
    · rw [if_pos f] at hs; exact key hs n0
    · rw [if_neg f] at hs
      by_cases f : E.ch (aA t x.p) x.day = 2
      · rw [if_pos f] at hs; exact key hs n0
      · rw [if_neg f] at hs; exact key hs (by simp)
  by_cases c : opA t x.p = 17
  · rw [stp_any c] at hs
    cases hv : E.fs (aA t x.p) x.day (min (bA t x.p) tu) with
    | none => rw [hv] at hs; exact key hs n0
    | some d => rw [hv] at hs; exact key hs n0
  rw [stp_zero (by omega)] at hs
  exact key hs n0
theorem acq_filter (tu : Int) : ∀ ts : List Td, ts.flatMap (acqL tu) = ts.filter fun y => decide (y.day ≤ tu)
  | [] => rfl
  | y :: ts => by
    rw [List.flatMap_cons, acq_filter tu ts]
    unfold acqL
    by_cases h : y.day ≤ tu
    · rw [if_pos h, List.filter_cons_of_pos (by simpa using h)]; rfl
    · rw [if_neg h, List.filter_cons_of_neg (by simpa using h)]; rfl
/-- A run so far. -/
structure GoI (t : List Nd) (E : Env) (tu : Int) (x0 : Td) (i : Nat) (td : List Td) (fl : List Flw) (ws : List Wat) : Prop where
  le : i ≤ td.length
  ok : ∀ y ∈ td.drop i, CtA t y.p ∧ fitsR y.q = true ∧ 0 ≤ y.day ∧ y.day ≤ 73048 ∧ y.day ≤ tu
  sz : i + szs t (td.drop i) ≤ 64
  lf : fl.length ≤ i
  lw : ws.length ≤ i * 128
  eq : Eqv (cat (some (fl, ws)) (cats ((td.drop i).map (dn t E tu)))) (dn t E tu x0)
theorem GoI.start {t : List Nd} (h : (ofK t).2 = 0) {E : Env} {tu : Int} {x : Td} (hx : CtA t x.p) (hq : fitsR x.q = true) (h0 : 0 ≤ x.day) (h1 : x.day ≤ 73048) : GoI t E tu x 0 (acqL tu x) [] [] := by
  have hb := (ok_tm h hx.lt).bd
  have hl := (ofK_zero h).1
  unfold acqL
  by_cases hd : x.day ≤ tu
  · rw [if_pos hd]
    refine ⟨by simp, fun y hy => ?_, ?_, by simp, by simp, ?_⟩
    · obtain rfl := List.mem_singleton.1 hy
      exact ⟨hx, hq, h0, h1, hd⟩
    · rw [List.drop_zero, szs_one]; omega
    · show Eqv (cat nul (cat (dn t E tu x) nul)) (dn t E tu x)
      rw [nul_cat, cat_nul]; exact Eqv.refl _
  · rw [if_neg hd]
    refine ⟨by simp, fun y hy => (by simp at hy), by simp [szs], by simp, by simp, ?_⟩
    rw [dn_late (by omega)]
    show Eqv (cat nul nul) nul
    rw [nul_cat]; exact Eqv.refl _
theorem szs_pos {t : List Nd} (h : (ofK t).2 = 0) : ∀ {l : List Td}, (∀ y ∈ l, CtA t y.p) → l.length ≤ szs t l
  | [], _ => Nat.zero_le _
  | y :: l, hl => by
    have := szs_pos h (l := l) (fun z hz => hl z (by simp [hz]))
    have := ct_pos h (hl y (by simp))
    rw [szs_cons, List.length_cons]; omega
theorem GoI.len {t : List Nd} (h : (ofK t).2 = 0) {E : Env} {tu : Int} {x0 : Td} {i : Nat} {td : List Td} {fl : List Flw} {ws : List Wat} (hg : GoI t E tu x0 i td fl ws) : td.length ≤ 64 := by
  have h1 := szs_pos h (fun y hy => (hg.ok y hy).1)
  rw [List.length_drop] at h1
  have := hg.sz
  have := hg.le
  omega
theorem td_drop {td : List Td} {i : Nat} (h : i < td.length) : td.drop i = td.getD i default :: td.drop (i + 1) := by
  rw [List.drop_eq_getElem_cons h, List.getD_eq_getElem?_getD, List.getElem?_eq_getElem h]; rfl
theorem GoI.at {t : List Nd} {E : Env} {tu : Int} {x0 : Td} {i : Nat} {td : List Td} {fl : List Flw} {ws : List Wat} (hg : GoI t E tu x0 i td fl ws) (hi : i < td.length) : CtA t (td.getD i default).p ∧ fitsR (td.getD i default).q = true ∧ 0 ≤ (td.getD i default).day ∧ (td.getD i default).day ≤ 73048 ∧ (td.getD i default).day ≤ tu :=
  hg.ok _ (by rw [td_drop hi]; simp)
theorem GoI.err {t : List Nd} (h : (ofK t).2 = 0) {E : Env} (hE : E.Ok) {tu : Int} (hto : tu ≤ 73048) {x0 : Td} {i : Nat} {td : List Td} {fl : List Flw} {ws : List Wat} (hg : GoI t E tu x0 i td fl ws) (hi : i < td.length) (hs : stp t E tu (td.getD i default) = none) : dn t E tu x0 = none := by
  obtain ⟨a1, a2, a3, a4, a5⟩ := hg.at hi
  have e := hg.eq
  rw [td_drop hi, List.map_cons, cats, dn_eq h hE hto a1 (by omega), hs] at e
  exact (Eqv.none_iff e).1 rfl
theorem GoI.step {t : List Nd} (h : (ofK t).2 = 0) {E : Env} (hE : E.Ok) {tu : Int} (hto : tu ≤ 73048) {x0 : Td} {i : Nat} {td : List Td} {fl : List Flw} {ws : List Wat} (hg : GoI t E tu x0 i td fl ws) (hi : i < td.length) {ts : List Td} {fl' : List Flw} {ws' : List Wat} (hs : stp t E tu (td.getD i default) = some (ts, fl', ws')) : GoI t E tu x0 (i + 1) (td ++ ts.flatMap (acqL tu)) (fl ++ fl') (ws ++ ws') := by
  obtain ⟨a1, a2, a3, a4, a5⟩ := hg.at hi
  have hk := stp_kids h hE hto a1 hs
  have hd : (td ++ ts.flatMap (acqL tu)).drop (i + 1) = td.drop (i + 1) ++ ts.flatMap (acqL tu) := by rw [List.drop_append_of_le_length hi]
  have hsz := hg.sz
  rw [td_drop hi, szs_cons] at hsz
  rw [acq_filter] at hd ⊢
  have hfs := szs_filter t (fun y => decide (y.day ≤ tu)) ts
  have hks := hk.sz
  refine ⟨by rw [List.length_append]; omega, fun y hy => ?_, ?_, ?_, ?_, ?_⟩
  · rw [hd] at hy
    rcases List.mem_append.1 hy with hy | hy
    · exact hg.ok y (by rw [td_drop hi]; simp [hy])
    · obtain ⟨h1, h2⟩ := List.mem_filter.1 hy
      have h3 := hk.day y h1
      exact ⟨hk.ct y h1, hk.fit a2 y h1, by omega, hk.top a4 y h1, by simpa using h2⟩
  · rw [hd, szs_app]; omega
  · have := hg.lf
    rw [List.length_append]
    rcases stp_flows hs with rfl | ⟨c, n, rfl, _⟩
    · simp; omega
    · simp; omega
  · have := hg.lw
    have := stp_waits hs
    rw [List.length_append]; omega
  · rw [hd, List.map_append]
    have e := hg.eq
    rw [td_drop hi, List.map_cons] at e
    have hx : dn t E tu (td.getD i default) = cat (some (fl', ws')) (cats ((ts.filter fun y => decide (y.day ≤ tu)).map (dn t E tu))) := by
      rw [cats_map_nul (dn t E tu) (fun y => decide (y.day ≤ tu)) (fun y hy => dn_late (by have := of_decide_eq_false hy; omega)), dn_eq h hE hto a1 (by omega), hs]
    exact run_one hx e
theorem GoI.done {t : List Nd} {E : Env} {tu : Int} {x0 : Td} {i : Nat} {td : List Td} {fl : List Flw} {ws : List Wat} (hg : GoI t E tu x0 i td fl ws) (hi : ¬ i < td.length) : Eqv (some (fl, ws)) (dn t E tu x0) := by
  have e := hg.eq
  rw [List.drop_eq_nil_of_le (by omega), List.map_nil, cats, cat_nul] at e
  exact e

/-- The zero reading. -/
def zRd : Value := .agg #[.slice none 0 0, .int .i64 0, .pointer none, .slice none 0 0, .slice none 0 0]
def GoP (w : World) (tv : Value) (tu : Int) (B : Nat) (e : Ending) (w' : World) : Otc → Prop
  | none => e = .returned (.tuple #[zRd, .int .i64 11]) ∧ Below w.heap.size w w'
  | some r => ∃ fv wv fl ws, e = .returned (.tuple #[.agg #[tv, .int .i64 tu, .pointer (some ⟨B, 0, none⟩), fv, wv], .int .i64 0]) ∧ OwnX flL 3 50 w' w.heap.size fv fl ∧ OwnX waL 3 46 w' w.heap.size wv ws ∧ Aprt fv wv ∧ fl.Perm r.1 ∧ ws.Perm r.2 ∧ fl.length ≤ 64 ∧ ws.length ≤ 8192 ∧ Below w.heap.size w w'

end Go.Proofs.YtgeneoamngfomaaGreatDoor

namespace Go.Proofs.YtgeneoamngfomaaGreatDoor
open Go.RowKit Go.Lib Go.Maps
set_option linter.unusedVariables false
set_option linter.unusedSimpArgs false

def badD (a b : Int) : Prop := a < 0 ∨ 73048 < a ∨ b < -1 ∨ 73048 < b
instance (a b : Int) : Decidable (badD a b) := by unfold badD; exact inferInstance
theorem one_fit : fitsR 1 = true ∧ (1 : Rat).num = 1 ∧ (((1 : Rat).den : Nat) : Int) = 1 := by decide +kernel
/-- What goThrough answers. -/
noncomputable def GoQ (w : World) (t : List Nd) (lf lc : List Fct) (tv : Value) (fr tu : Int) (B : Nat) (e : Ending) (w' : World) : Prop :=
  if chkK t ≠ 0 then e = .returned (.tuple #[zRd, .int .i64 (chkK t)]) ∧ Below w.heap.size w w'
  else if badD fr tu then e = .returned (.tuple #[zRd, .int .i64 18]) ∧ Below w.heap.size w w'
  else GoP w tv tu B e w' (dn t (envL lf lc) tu ⟨0, fr, 1⟩)
theorem keepF' {w w' : World} {b i n : Nat} {v : Value} (hb : Below n w w') (hn : b < n) (h : w.cell? ⟨b, i, none⟩ = some v) : w'.cell? ⟨b, i, none⟩ = some v := (hb.cell (p := ⟨b, i, none⟩) hn).trans h
theorem set5 {z Q : Nat} {w w1 : World} {x0 x1 x2 x3 x4 : Value} (hb : Below z w w1) (hQ : z ≤ Q) : Below z w (((((w1.setCell ⟨Q, 0, none⟩ x0).setCell ⟨Q, 1, none⟩ x1).setCell ⟨Q, 2, none⟩ x2).setCell ⟨Q, 3, none⟩ x3).setCell ⟨Q, 4, none⟩ x4) :=
  Below.setCell (Below.setCell (Below.setCell (Below.setCell (Below.setCell hb hQ _) hQ _) hQ _) hQ _) hQ _
theorem own_set5 {α : Type} {E : α → List Value} {k : Nat} {ty : TypeId} {w : World} {base P : Nat} {v x0 x1 x2 x3 x4 : Value} {l : List α} (h : OwnX E k ty w base v l) (hn : Off v P) : OwnX E k ty (((((w.setCell ⟨P, 0, none⟩ x0).setCell ⟨P, 1, none⟩ x1).setCell ⟨P, 2, none⟩ x2).setCell ⟨P, 3, none⟩ x3).setCell ⟨P, 4, none⟩ x4) base v l :=
  ((((h.kept (grownBy_set _ _ _ _) hn.row).kept (grownBy_set _ _ _ _) hn.row).kept (grownBy_set _ _ _ _) hn.row).kept (grownBy_set _ _ _ _) hn.row).kept (grownBy_set _ _ _ _) hn.row
theorem rd_start {w0 w : World} {Z Q : Nat} {tu : Int} {qv : Value} {td : List Td} (h : Qu0 w0 w Z Q tu qv td) (tv : Value) (B : Nat) (ty : TypeId) : RdR w0 (w.alloc (.cells #[tv, .int .i64 tu, .pointer (some ⟨B, 0, none⟩), .slice none 0 0, .slice none 0 0] ty)) w.heap.size Z Q tv tu B qv (.slice none 0 0) (.slice none 0 0) td [] [] := by
  have hb := newF w (.cells #[tv, .int .i64 tu, .pointer (some ⟨B, 0, none⟩), .slice none 0 0, .slice none 0 0] ty)
  have c : ∀ k v, (#[tv, .int .i64 tu, .pointer (some ⟨B, 0, none⟩), .slice none 0 0, .slice none 0 0] : Array Value)[k]? = some v → (w.alloc (.cells #[tv, .int .i64 tu, .pointer (some ⟨B, 0, none⟩), .slice none 0 0, .slice none 0 0] ty)).cell? ⟨w.heap.size, k, none⟩ = some v := fun k v hv => by rw [World.cell?_alloc_at _ _ _ _ rfl]; exact hv
  have no : ∀ k, Off (.slice none 0 0) k := fun k e => by cases e
  have lz := ltF h.z
  have lq := ltF h.q
  exact ⟨c 0 _ rfl, c 1 _ rfl, c 2 _ rfl, c 3 _ rfl, c 4 _ rfl, keepF hb h.z, keepF hb h.q, fun k => World.frozen?_alloc_at _ _ _ _ rfl, (hb.frozen (p := ⟨Q, 0, none⟩) lq).trans h.fq,
    h.oq.grown hb, OwnX.nil _ _ _ _ _, OwnX.nil _ _ _ _ _, fun k _ e => (by cases e), fun k _ e => (by cases e), fun k e => (by cases e), fun e => (by have := (h.oq.lt _ e).2; omega), h.qZ, h.qQ, no _, no _, no _, no _, no _, no _, by omega, by omega, h.nZQ, h.bel.size, h.bQ, h.bel.trans (hb.mono h.bel.size)⟩
theorem take_td {td : List Td} {w : World} {base : Nat} {qv : Value} (h : OwnX tdL 4 128 w base qv td) {i : Nat} (hi : i < td.length) : ∃ g cap, qv = .slice (some ⟨g, 0, none⟩) td.length cap ∧ td.length ≤ cap ∧ cap ≤ 9223372036854775807 ∧ w.cell? ⟨g, i * 4, none⟩ = some (.int .i64 ((td.getD i default).p : Nat)) ∧ w.cell? ⟨g, i * 4 + 1, none⟩ = some (.int .i64 (td.getD i default).day) ∧ w.cell? ⟨g, i * 4 + 2, none⟩ = some (.int .i64 (td.getD i default).q.num) ∧ w.cell? ⟨g, i * 4 + 3, none⟩ = some (.int .i64 (((td.getD i default).q.den : Nat) : Int)) := by
  obtain ⟨g, cap, e, _, h1, h2, hc⟩ := h.at (E := tdL) (k := 4) (fun _ => rfl) (by omega)
  exact ⟨g, cap, e, h1, h2, hc i hi 0 _ (by decide) rfl, hc i hi 1 _ (by decide) rfl, hc i hi 2 _ (by decide) rfl, hc i hi 3 _ (by decide) rfl⟩
set_option maxRecDepth 100000 in
set_option maxHeartbeats 8000000 in
theorem go_any (w : World) (t : List Nd) (hl : t.length ≤ 1000) (hbd : BdT t) (tv : Value) (hv : SlT w tv t) (C : KndW w) (fr tu : Int) {B bf bc nn : Nat} {Df Dc : DataW Unit} (hm : FacM w B bf bc nn Df Dc) {lf lc : List Fct} (rf : RelV vR Df lf) (rc : RelV vI Dc lc) (hof : OkL lf) (hoc : ∀ x ∈ lc, x.p = 1 ∨ x.p = 2) :
    Calls Tryz.prog 22 #[tv, .int .i64 fr, .int .i64 tu, .pointer (some ⟨B, 0, none⟩)] w (GoQ w t lf lc tv fr tu B) := by
  have hb1 := onF (newF w (.cells #[.int .i64 tu] 3)) (newF (w.alloc (.cells #[.int .i64 tu] 3)) (.cells #[.slice none 0 0, .int .i64 0, .pointer none, .slice none 0 0, .slice none 0 0] 68))
  have HCk := Lib.hid (tcheck_any t (by omega) hbd tv _ (hv.keep hb1) (C.keep hb1))
  have hz : ((w.alloc (.cells #[.int .i64 tu] 3)).alloc (.cells #[.slice none 0 0, .int .i64 0, .pointer none, .slice none 0 0, .slice none 0 0] 68)).cell? ⟨w.heap.size, 0, none⟩ = some (.int .i64 tu) := keepF (newF _ _) (by rw [World.cell?_alloc_at _ _ _ _ rfl]; rfl)
  have pc : ∀ k v, (#[.slice none 0 0, .int .i64 0, .pointer none, .slice none 0 0, .slice none 0 0] : Array Value)[k]? = some v → ((w.alloc (.cells #[.int .i64 tu] 3)).alloc (.cells #[.slice none 0 0, .int .i64 0, .pointer none, .slice none 0 0, .slice none 0 0] 68)).cell? ⟨w.heap.size + 1, k, none⟩ = some v := fun k v h => by rw [World.cell?_alloc_at _ _ _ _ (by simp)]; exact h
  have pf : ∀ k, ((w.alloc (.cells #[.int .i64 tu] 3)).alloc (.cells #[.slice none 0 0, .int .i64 0, .pointer none, .slice none 0 0, .slice none 0 0] 68)).frozen? ⟨w.heap.size + 1, k, none⟩ = false := fun k => World.frozen?_alloc_at _ _ _ _ (by simp)
  have HP := Lib.hid (And.intro (pc 0 (.slice none 0 0) rfl) (And.intro (pc 1 (.int .i64 0) rfl) (And.intro (pc 2 (.pointer none) rfl) (And.intro (pc 3 (.slice none 0 0) rfl) (pc 4 (.slice none 0 0) rfl)))))
  have HPf := Lib.hid pf
  have HZ := Lib.hid hz
  have HB1 := Lib.hid hb1
  have hsz : ((w.alloc (.cells #[.int .i64 tu] 3)).alloc (.cells #[.slice none 0 0, .int .i64 0, .pointer none, .slice none 0 0, .slice none 0 0] 68)).heap.size = w.heap.size + 1 + 1 := by simp
  have HSz := Lib.hid hsz
  have HCx := Lib.hid (fun (hk : chkK t = 0) => (show CtxD ((w.alloc (.cells #[.int .i64 tu] 3)).alloc (.cells #[.slice none 0 0, .int .i64 0, .pointer none, .slice none 0 0, .slice none 0 0] 68)) t tv B bf bc nn Df Dc lf lc from ⟨hv.keep hb1, hbd, (chk_mk hk).1, C.keep hb1, hm.keep hb1, rf, rc, hof, hoc⟩))
  have HMk := Lib.hid (fun (hk : chkK t = 0) => (chk_mk hk).2)
  have hgo : ∀ e w', (chkK t ≠ 0 → e = .returned (.tuple #[zRd, .int .i64 (chkK t)]) ∧ Below w.heap.size w w') → (chkK t = 0 → badD fr tu → e = .returned (.tuple #[zRd, .int .i64 18]) ∧ Below w.heap.size w w') → (chkK t = 0 → ¬ badD fr tu → GoP w tv tu B e w' (dn t (envL lf lc) tu ⟨0, fr, 1⟩)) → GoQ w t lf lc tv fr tu B e w' := fun e w' h1 h2 h3 => by
    unfold GoQ
    by_cases c : chkK t ≠ 0
    · rw [if_pos c]; exact h1 c
    · rw [if_neg c]
      by_cases d : badD fr tu
      · rw [if_pos d]; exact h2 (by omega) d
      · rw [if_neg d]; exact h3 (by omega) d
  have HGo := Lib.hid hgo
  obtain ⟨va, vn, vc, rfl⟩ : ∃ a n c, tv = .slice a n c := by
    obtain ⟨a, c, h⟩ := hv.slice
    exact ⟨_, _, _, h⟩
  clear hbd hv C hm rf rc hof hoc hb1 hz pc pf hsz hgo
  generalize chkK t = ck at *
  by_cases hck : ck = 0
  · subst hck
    by_cases hbad : badD fr tu
    · have HBd := Lib.hid hbad
      have r0 := HP.out.1
      have r1 := HP.out.2.1
      have r2 := HP.out.2.2.1
      have r3 := HP.out.2.2.2.1
      have r4 := HP.out.2.2.2.2
      have hcs : (fr < 0) ∨ (¬ fr < 0 ∧ 73048 < fr) ∨ (¬ fr < 0 ∧ ¬ 73048 < fr ∧ tu < -1) ∨ (¬ fr < 0 ∧ ¬ 73048 < fr ∧ ¬ tu < -1 ∧ 73048 < tu) := by
        unfold badD at hbad; omega
      clear hbad
      rcases hcs with c1 | ⟨c1, c2⟩ | ⟨c1, c2, c3⟩ | ⟨c1, c2, c3, c4⟩
      all_goals
        go_enter Tryz.func22, Tryz.ntmps22
        go_wp2_with fail
        go_step3
        go_wp2_with fail
        refine HCk.out.mono ?_
        rintro e w1 ⟨rfl, hb1⟩
        have z0 := keepF hb1 HZ.out
        have r0 := keepF hb1 r0
        have r1 := keepF hb1 r1
        have r2 := keepF hb1 r2
        have r3 := keepF hb1 r3
        have r4 := keepF hb1 r4
        have f0 := (hb1.frozen (p := ⟨w.heap.size + 1, 0, none⟩) (ltF HP.out.1)).trans (HPf.out 0)
        have f1 := (hb1.frozen (p := ⟨w.heap.size + 1, 1, none⟩) (ltF HP.out.1)).trans (HPf.out 1)
        have f2 := (hb1.frozen (p := ⟨w.heap.size + 1, 2, none⟩) (ltF HP.out.1)).trans (HPf.out 2)
        have f3 := (hb1.frozen (p := ⟨w.heap.size + 1, 3, none⟩) (ltF HP.out.1)).trans (HPf.out 3)
        have f4 := (hb1.frozen (p := ⟨w.heap.size + 1, 4, none⟩) (ltF HP.out.1)).trans (HPf.out 4)
        have HB2 := Lib.hid (onF HB1.out hb1)
        clear hb1
        go_wp2_with fail
        exact bodyPost_ret (v := .tuple #[zRd, .int .i64 18]) (by simp [results, Tryz.results22, go_sem, zRd, r0, r1, r2, r3, r4]) rfl (HGo.out _ _ (fun h => absurd rfl h) (fun _ _ => ⟨rfl, set5 HB2.out (Nat.le_succ _)⟩) (fun _ h => absurd HBd.out h))
    · have HGd := Lib.hid hbad
      have hc0 := HCx.out rfl
      have hmk := HMk.out rfl
      have c1 : ¬ fr < 0 := fun h => hbad (.inl h)
      have c2 : ¬ 73048 < fr := fun h => hbad (.inr (.inl h))
      have c3 : ¬ tu < -1 := fun h => hbad (.inr (.inr (.inl h)))
      have c4 : ¬ 73048 < tu := fun h => hbad (.inr (.inr (.inr h)))
      have hx0 : CtA t 0 := ⟨by have := (ofK_zero hc0.ok).2.1; have := whole_len this; omega, hmk⟩
      have HG0 := Lib.hid (GoI.start (E := envL lf lc) (tu := tu) (x := ⟨0, fr, 1⟩) hc0.ok hx0 one_fit.1 (by dsimp only; omega) (by dsimp only; omega))
      have HE := Lib.hid (env_ok hc0)
      have HC0 := Lib.hid hc0
      have HTu : Hid (tu ≤ 73048) := Lib.hid (by omega)
      clear hbad hmk hx0 hc0 HCx HMk
      go_enter Tryz.func22, Tryz.ntmps22
      go_wp2_with fail
      go_step3
      go_wp2_with fail
      generalize (w.alloc (.cells #[.int .i64 tu] 3)).alloc (.cells #[.slice none 0 0, .int .i64 0, .pointer none, .slice none 0 0, .slice none 0 0] 68) = WA at *
      refine HCk.out.mono ?_
      rintro e w1 ⟨rfl, hb1⟩
      have z0 := keepF hb1 HZ.out
      have hq0 : Qu0 WA (w1.alloc (.cells #[.slice none 0 0] 126)) w.heap.size w1.heap.size tu (.slice none 0 0) [] := by
        have hb2 := newF w1 (.cells #[.slice none 0 0] 126)
        have hs1 := hb1.size
        have hs2 := HSz.out
        exact ⟨keepF hb2 z0, by rw [World.cell?_alloc_at _ _ _ _ rfl]; rfl, World.frozen?_alloc_at _ _ _ _ rfl, OwnX.nil _ _ _ _ _, fun e => (by cases e), fun e => (by cases e), by omega, hs1, hb1.trans (hb2.mono hs1)⟩
      have HA0 := Lib.hid (acq0_any hq0 ⟨0, fr, 1⟩ 0 1 1 rfl one_fit.2.1.symm one_fit.2.2.symm fr rfl)
      clear hq0 hb1 HCk
      go_wp2_with fail
      refine HA0.out.mono ?_
      rintro e w3 ⟨rfl, ⟨qv, hq3⟩, _⟩
      have z0 := hq3.z
      have HR3 := Lib.hid (rd_start hq3 (.slice va vn vc) B 68)
      have HRb : Hid (WA.heap.size ≤ w3.heap.size) := Lib.hid hq3.bel.size
      clear hq3 HA0
      go_wp2_with fail
      generalize acqL tu ⟨0, fr, 1⟩ = td0 at *
      generalize w1.heap.size = Q at *
      generalize w3.alloc (.cells #[.slice va vn vc, .int .i64 tu, .pointer (some ⟨B, 0, none⟩), .slice none 0 0, .slice none 0 0] 68) = w4 at *
      generalize w3.heap.size = R at *
      clear z0
      go_step3
      go_wp2_with fail
      go_loopw [15, 14] (fun vi ve wx => ∃ i : Nat, vi = .int .i64 (i : Nat) ∧ ve = .int .i64 0 ∧ ∃ td fl ws qv fv wv, RdR WA wx R w.heap.size Q (.slice va vn vc) tu B qv fv wv td fl ws ∧ GoI t (envL lf lc) tu ⟨0, fr, 1⟩ i td fl ws) (fun vi _ _ => 65 - (RowKit.intOf vi).toNat)
      case atStart => exact ⟨0, rfl, rfl, _, _, _, _, _, _, HR3.out, HG0.out⟩
      case round =>
        obtain ⟨i, rfl, rfl, td, fl, ws, qv, fv, wv, hr, hg⟩ := hrel
        have HR := Lib.hid hr
        have HG := Lib.hid hg
        have ht64 := hg.len HC0.out.ok
        have hi64 : i ≤ 64 := Nat.le_trans hg.le ht64
        have q0 := hr.q
        by_cases hlt : i < td.length
        · have HLt := Lib.hid hlt
          obtain ⟨g, cap, rfl, hcp1, hcp2, k0, k1, k2, k3⟩ := take_td hr.oq hlt
          obtain ⟨a1, a2, a3, a4, a5⟩ := hg.at hlt
          have p0 : (0 : Int) ≤ (i : Int) := by omega
          have p1 : (i : Int) < (td.length : Int) := by omega
          have HDo := Lib.hid (do_any HC0.out hr (by omega) (by have := hg.lf; omega) (by have := hg.lw; omega) HTu.out (td.getD i default) a1 a2 a3 a4)
          have HEr := Lib.hid (fun h => hg.err HC0.out.ok HE.out HTu.out hlt h)
          have HSp := Lib.hid (fun ts fl' ws' h => hg.step HC0.out.ok HE.out HTu.out hlt (ts := ts) (fl' := fl') (ws' := ws') h)
          unfold AcqV at HDo
          clear hr hg hlt a1 a2 a3 a4 a5 HR HG
          generalize (((td.getD i default).q.den : Nat) : Int) = xd at *
          generalize (td.getD i default).q.num = xn at *
          generalize (td.getD i default).day = xy at *
          generalize (td.getD i default).p = xp at *
          go_wp2_with fail
          refine HDo.out.mono ?_
          rintro e w5 hdo
          obtain ⟨er, rfl⟩ := hdo.shape
          have HD5 := Lib.hid hdo
          clear hdo HDo k0 k1 k2 k3 q0
          cases hs : stp t (envL lf lc) tu (td.getD i default) with
          | none =>
            rw [hs] at HD5
            obtain ⟨he, hb5⟩ := HD5.out
            injection he with he
            injection he with _ he
            subst he
            have HDn := Lib.hid (HEr.out hs)
            have r0 := keepF' hb5 (by have := HSz.out; omega) HP.out.1
            have r1 := keepF' hb5 (by have := HSz.out; omega) HP.out.2.1
            have r2 := keepF' hb5 (by have := HSz.out; omega) HP.out.2.2.1
            have r3 := keepF' hb5 (by have := HSz.out; omega) HP.out.2.2.2.1
            have r4 := keepF' hb5 (by have := HSz.out; omega) HP.out.2.2.2.2
            have f0 := (hb5.frozen (p := ⟨w.heap.size + 1, 0, none⟩) (ltF HP.out.1)).trans (HPf.out 0)
            have f1 := (hb5.frozen (p := ⟨w.heap.size + 1, 1, none⟩) (ltF HP.out.1)).trans (HPf.out 1)
            have f2 := (hb5.frozen (p := ⟨w.heap.size + 1, 2, none⟩) (ltF HP.out.1)).trans (HPf.out 2)
            have f3 := (hb5.frozen (p := ⟨w.heap.size + 1, 3, none⟩) (ltF HP.out.1)).trans (HPf.out 3)
            have f4 := (hb5.frozen (p := ⟨w.heap.size + 1, 4, none⟩) (ltF HP.out.1)).trans (HPf.out 4)
            have HB5 := Lib.hid (onF HB1.out hb5)
            clear hs hb5 HD5 HEr HSp
            go_wp2_with fail
            (try simp only [Exit.inBlock, Exit.then])
            exact bodyPost_ret (v := .tuple #[zRd, .int .i64 11]) (by simp [results, Tryz.results22, go_sem, zRd, r0, r1, r2, r3, r4]) rfl (HGo.out _ _ (fun h => absurd rfl h) (fun _ h => absurd h HGd.out) (fun _ _ => by rw [HDn.out]; exact ⟨rfl, set5 HB5.out (Nat.le_succ _)⟩))
          | some r =>
            rw [hs] at HD5
            obtain ⟨ts, fl', ws'⟩ := r
            obtain ⟨he, qv5, fv5, wv5, hr5⟩ := HD5.out
            injection he with he
            injection he with _ he
            subst he
            have HN := Lib.hid (HSp.out ts fl' ws' hs)
            have HR5 := Lib.hid hr5
            clear hs hr5 HD5 HEr HSp
            go_wp2_with fail
            go_roundw
            case rel => exact ⟨i + 1, by go_num, rfl, _, _, _, _, _, _, HR5.out, HN.out⟩
            case measure => have := HLt.out; simp [RowKit.intOf]; omega
        · have HDn := Lib.hid (hg.done hlt)
          have HLs := Lib.hid (And.intro hg.lf hg.lw)
          have p1 : ¬ (i : Int) < (td.length : Int) := by omega
          obtain ⟨qa, qc, rfl⟩ := hr.oq.slice
          obtain ⟨fa, fc, rfl⟩ := hr.of.slice
          obtain ⟨wa, wcc, rfl⟩ := hr.ow.slice
          have s0 := hr.r0
          have s1 := hr.r1
          have s2 := hr.r2
          have s3 := hr.r3
          have s4 := hr.r4
          have hb5 := hr.bel
          have r0 := keepF' hb5 (by have := HSz.out; omega) HP.out.1
          have r1 := keepF' hb5 (by have := HSz.out; omega) HP.out.2.1
          have r2 := keepF' hb5 (by have := HSz.out; omega) HP.out.2.2.1
          have r3 := keepF' hb5 (by have := HSz.out; omega) HP.out.2.2.2.1
          have r4 := keepF' hb5 (by have := HSz.out; omega) HP.out.2.2.2.2
          have f0 := (hb5.frozen (p := ⟨w.heap.size + 1, 0, none⟩) (ltF HP.out.1)).trans (HPf.out 0)
          have f1 := (hb5.frozen (p := ⟨w.heap.size + 1, 1, none⟩) (ltF HP.out.1)).trans (HPf.out 1)
          have f2 := (hb5.frozen (p := ⟨w.heap.size + 1, 2, none⟩) (ltF HP.out.1)).trans (HPf.out 2)
          have f3 := (hb5.frozen (p := ⟨w.heap.size + 1, 3, none⟩) (ltF HP.out.1)).trans (HPf.out 3)
          have f4 := (hb5.frozen (p := ⟨w.heap.size + 1, 4, none⟩) (ltF HP.out.1)).trans (HPf.out 4)
          have HB5 := Lib.hid (onF HB1.out hb5)
          clear hr hg hlt hb5 HG
          have HFo := Lib.hid (own_set5 (P := w.heap.size + 1) (x0 := .slice va vn vc) (x1 := .int .i64 tu) (x2 := .pointer (some ⟨B, 0, none⟩)) (x3 := .slice fa fl.length fc) (x4 := .slice wa ws.length wcc) HR.out.of (fun e => by have := (HR.out.of.lt _ e).1; have := HSz.out; omega))
          have HWo := Lib.hid (own_set5 (P := w.heap.size + 1) (x0 := .slice va vn vc) (x1 := .int .i64 tu) (x2 := .pointer (some ⟨B, 0, none⟩)) (x3 := .slice fa fl.length fc) (x4 := .slice wa ws.length wcc) HR.out.ow (fun e => by have := (HR.out.ow.lt _ e).1; have := HSz.out; omega))
          have HAp := Lib.hid HR.out.afw
          have HLq : Hid (fl.length ≤ 64 ∧ ws.length ≤ 8192) := Lib.hid (by have := HLs.out; omega)
          have HBw : Hid (w.heap.size ≤ WA.heap.size) := Lib.hid (by have := HSz.out; omega)
          clear HR HLs
          go_wp2_with fail
          (try simp only [Exit.inBlock, Exit.then])
          refine bodyPost_ret (v := .tuple #[.agg #[.slice va vn vc, .int .i64 tu, .pointer (some ⟨B, 0, none⟩), .slice fa fl.length fc, .slice wa ws.length wcc], .int .i64 0]) (by simp [results, Tryz.results22, go_sem, r0, r1, r2, r3, r4]) rfl (HGo.out _ _ (fun h => absurd rfl h) (fun _ h => absurd h HGd.out) (fun _ _ => ?_))
          have hd := HDn.out
          cases hdn : dn t (envL lf lc) tu ⟨0, fr, 1⟩ with
          | none => rw [hdn] at hd; exact hd.elim
          | some r =>
            rw [hdn] at hd
            exact ⟨_, _, fl, ws, rfl, HFo.out.base HBw.out, HWo.out.base HBw.out, HAp.out, hd.1, hd.2, HLq.out.1, HLq.out.2, set5 HB5.out (Nat.le_succ _)⟩
  · have r0 := HP.out.1
    have r1 := HP.out.2.1
    have r2 := HP.out.2.2.1
    have r3 := HP.out.2.2.2.1
    have r4 := HP.out.2.2.2.2
    have HCn := Lib.hid hck
    have hc1 : ((ck : Int) != 0) = true := bne_iff_ne.2 (by omega)
    have hc2 : ((ck : Int) == 0) = false := beq_false_of_ne (by omega)
    clear hck
    go_enter Tryz.func22, Tryz.ntmps22
    go_wp2_with fail
    go_step3
    go_wp2_with fail
    refine HCk.out.mono ?_
    rintro e w1 ⟨rfl, hb1⟩
    have r0 := keepF hb1 r0
    have r1 := keepF hb1 r1
    have r2 := keepF hb1 r2
    have r3 := keepF hb1 r3
    have r4 := keepF hb1 r4
    have f0 := (hb1.frozen (p := ⟨w.heap.size + 1, 0, none⟩) (ltF HP.out.1)).trans (HPf.out 0)
    have f1 := (hb1.frozen (p := ⟨w.heap.size + 1, 1, none⟩) (ltF HP.out.1)).trans (HPf.out 1)
    have f2 := (hb1.frozen (p := ⟨w.heap.size + 1, 2, none⟩) (ltF HP.out.1)).trans (HPf.out 2)
    have f3 := (hb1.frozen (p := ⟨w.heap.size + 1, 3, none⟩) (ltF HP.out.1)).trans (HPf.out 3)
    have f4 := (hb1.frozen (p := ⟨w.heap.size + 1, 4, none⟩) (ltF HP.out.1)).trans (HPf.out 4)
    have HB2 := Lib.hid (onF HB1.out hb1)
    clear hb1
    go_wp2_with fail
    exact bodyPost_ret (v := .tuple #[zRd, .int .i64 ck]) (by simp [results, Tryz.results22, go_sem, zRd, r0, r1, r2, r3, r4]) rfl (HGo.out _ _ (fun _ => ⟨rfl, set5 HB2.out (Nat.le_succ _)⟩) (fun h => absurd h HCn.out) (fun h => absurd h HCn.out))

end Go.Proofs.YtgeneoamngfomaaGreatDoor

/-
  Package denote: Flows, Waits: what they answer.
-/
import Derived.Test.YtgeneoamngfomaaGreatDoorER
import Derived.Test.YtgeneoamngfomaaGreatDoorEK
import Derived.Test.YtgeneoamngfomaaGreatDoorVlH
namespace Go.Proofs.YtgeneoamngfomaaGreatDoor
open Go.RowKit Go.Lib Go.Maps
set_option linter.unusedVariables false
set_option linter.unusedSimpArgs false

/-- Waits are fixings, or choices. -/
def okW (x : Wat) : Prop := x.h = 0 ∨ x.h = 1
theorem askW_ok {t : List Nd} {E : Env} {d : Int} {p : Nat} : ∀ x ∈ askW t E d p, okW x := fun x hx => by
  unfold askW at hx
  obtain ⟨k, _, rfl⟩ := List.mem_map.1 hx
  exact .inl rfl
theorem stp_wok {t : List Nd} {E : Env} {tu : Int} {x : Td} {ts : List Td} {fl : List Flw} {ws : List Wat} (hs : stp t E tu x = some (ts, fl, ws)) : ∀ y ∈ ws, okW y := by
  have key : ∀ {a b c}, (some (a, b, c) : Option (List Td × List Flw × List Wat)) = some (ts, fl, ws) → (∀ y ∈ c, okW y) → ∀ y ∈ ws, okW y := fun e hb => by
    have e2 := congrArg (fun o : Option (List Td × List Flw × List Wat) => (o.map fun r => r.2.2).getD []) e
    have e3 : _ = ws := e2
    rw [← e3]; exact hb
  have n0 : ∀ y ∈ ([] : List Wat), okW y := fun y hy => by cases hy
  have a2 : ∀ y ∈ (askW t E x.day (kid t x.p 0) ++ askW t E x.day (kid t x.p 1)), okW y := fun y hy => (List.mem_append.1 hy).elim (askW_ok y) (askW_ok y)
  by_cases c : opA t x.p = 10
  · rw [stp_one c] at hs; exact key hs n0
  by_cases c : opA t x.p = 11
  · rw [stp_give c] at hs; exact key hs n0
  by_cases c : opA t x.p = 12
  · rw [stp_and c] at hs; exact key hs n0
  by_cases c : opA t x.p = 13
  · rw [stp_scale c] at hs
    cases hv : vlA t (E.fx x.day) (kid t x.p 0) with
    | none => rw [hv] at hs; cases hs
    | some v =>
      rw [hv] at hs
      cases v with
      | none => exact key hs askW_ok
      | some v =>
        dsimp only at hs
        by_cases f : fitsR (x.q * v) = true
        · rw [if_pos f] at hs; exact key hs n0
        · rw [if_neg f] at hs; cases hs
  by_cases c : opA t x.p = 14
  · rw [stp_when c] at hs; exact key hs n0
  by_cases c : opA t x.p = 15
  · rw [stp_cond c] at hs
    cases hv : vlA t (E.fx x.day) (kid t x.p 0) with
    | none => rw [hv] at hs; cases hs
    | some v =>
      cases hu : vlA t (E.fx x.day) (kid t x.p 1) with
      | none => rw [hv, hu] at hs; cases hs
      | some u =>
        rw [hv, hu] at hs
        cases v with
        | none =>
          cases u with
          | none => exact key hs a2
          | some u => exact key hs a2
        | some v =>
          cases u with
          | none => exact key hs a2
          | some u => exact key hs n0
  by_cases c : opA t x.p = 16
  · rw [stp_or c] at hs
    by_cases f : E.ch (aA t x.p) x.day = 1
    · rw [if_pos f] at hs; exact key hs n0
    · rw [if_neg f] at hs
      by_cases f : E.ch (aA t x.p) x.day = 2
      · rw [if_pos f] at hs; exact key hs n0
      · rw [if_neg f] at hs; exact key hs (fun y hy => by obtain rfl := List.mem_singleton.1 hy; exact .inr rfl)
  by_cases c : opA t x.p = 17
  · rw [stp_any c] at hs
    cases hv : E.fs (aA t x.p) x.day (min (bA t x.p) tu) with
    | none => rw [hv] at hs; exact key hs n0
    | some d => rw [hv] at hs; exact key hs n0
  rw [stp_zero (by omega)] at hs
  exact key hs n0
theorem dn_wok {t : List Nd} (h : (ofK t).2 = 0) {E : Env} (hE : E.Ok) {tu : Int} (hto : tu ≤ 73048) {x : Td} (hx : CtA t x.p) {fl : List Flw} {ws : List Wat} (hd : dn t E tu x = some (fl, ws)) : ∀ y ∈ ws, okW y := by
  refine dn_ind (P := fun x => ∀ fl ws, dn t E tu x = some (fl, ws) → ∀ y ∈ ws, okW y) ?_ (szA t x.p) x (Nat.le_refl _) hx fl ws hd
  clear hd hx fl ws x
  intro x hx ih fl ws hd
  by_cases hl : tu < x.day
  · rw [dn_late hl] at hd
    injection hd with hd; injection hd with _ hd
    subst hd
    intro f hf; cases hf
  · obtain ⟨ts, fl0, ws0, fl1, ws1, hs, hc, rfl, rfl⟩ := dn_step h hE hto hx hl hd
    have hk := stp_kids h hE hto hx hs
    have h1 := cats_all (f := dn t E tu) (Q := fun _ ws => ∀ y ∈ ws, okW y) (fun f hf => by cases hf) (fun a b c d ha hb f hf => (List.mem_append.1 hf).elim (ha f) (hb f)) ts (fun y hy a b e => by
      have := szs_mem (t := t) hy
      have := hk.sz
      exact ih y (hk.ct y hy) (by omega) a b e) fl1 ws1 hc
    intro f hf
    exact (List.mem_append.1 hf).elim (stp_wok hs f) (h1 f)
/-- What is sorted, each once. -/
theorem comp_srt {m : List Wat} (hs : m.Pairwise fun a b => ¬ blW b a) (hok : ∀ x ∈ m, okW x) : SrW (compactUpTo m.toArray m.length) ∧ ∀ x, x ∈ compactUpTo m.toArray m.length ↔ x ∈ m := by
  have hlt : ∀ {a b : Wat}, okW a → okW b → (blW a b ↔ bfW a b) := fun {a b} ha hb => by
    unfold blW bfW rkW
    rcases ha with e | e <;> rcases hb with e' | e' <;> rw [e, e'] <;> simp
  have hget : ∀ j, j < m.length → m.toArray[j]! = m.getD j default := fun j hj => arr_getD m j hj
  have hmem : ∀ j, j < m.length → m.getD j default ∈ m := fun j hj => by
    rw [List.getD_eq_getElem?_getD, List.getElem?_eq_getElem hj]; exact List.getElem_mem hj
  have hpw : ∀ i j, i < j → j < m.length → ¬ bfW (m.getD j default) (m.getD i default) := fun i j hij hj h => by
    have h1 := List.pairwise_iff_getElem.1 hs i j (by omega) hj hij
    refine h1 ((hlt (hok _ (List.getElem_mem _)) (hok _ (List.getElem_mem _))).2 ?_)
    rw [List.getD_eq_getElem?_getD, List.getD_eq_getElem?_getD, List.getElem?_eq_getElem hj, List.getElem?_eq_getElem (show i < m.length by omega)] at h
    exact h
  have key : ∀ p, p ≤ m.length → SrW (compactUpTo m.toArray p) ∧ (∀ x, x ∈ compactUpTo m.toArray p ↔ ∃ j, j < p ∧ m.getD j default = x) ∧ (0 < p → ∃ l, compactUpTo m.toArray p = l ++ [m.getD (p - 1) default]) := by
    intro p
    induction p with
    | zero => exact fun _ => ⟨List.Pairwise.nil, fun x => ⟨fun h => (by cases h), fun ⟨j, hj, _⟩ => absurd hj (Nat.not_lt_zero _)⟩, fun h => absurd h (Nat.lt_irrefl _)⟩
    | succ p ih =>
      intro hp
      obtain ⟨i1, i2, i3⟩ := ih (by omega)
      rw [compactUpTo_succ, Nat.add_sub_cancel, hget p (by omega)]
      have hk : keeps m.toArray p = decide (p = 0 ∨ m.getD p default ≠ m.getD (p - 1) default) := by
        unfold keeps
        rw [hget p (by omega), hget (p - 1) (by omega)]
      by_cases hkp : p = 0 ∨ m.getD p default ≠ m.getD (p - 1) default
      · rw [hk, decide_eq_true hkp, if_pos rfl]
        refine ⟨?_, fun x => ?_, fun _ => ⟨_, rfl⟩⟩
        · refine List.pairwise_append.2 ⟨i1, List.pairwise_singleton _ _, fun a ha b hb => ?_⟩
          obtain rfl := List.mem_singleton.1 hb
          obtain ⟨j, hj, rfl⟩ := (i2 a).1 ha
          have hp0 : 0 < p := by omega
          have hne : m.getD p default ≠ m.getD (p - 1) default := by
            rcases hkp with e | e
            · omega
            · exact e
          have h1 : bfW (m.getD (p - 1) default) (m.getD p default) := by
            rcases bfW_tri (m.getD (p - 1) default) (m.getD p default) with h | h | h
            · exact h
            · exact absurd h.symm hne
            · exact absurd h (hpw (p - 1) p (by omega) (by omega))
          by_cases e : j = p - 1
          · subst e; exact h1
          · rcases bfW_tri (m.getD j default) (m.getD (p - 1) default) with h | h | h
            · exact bfW_trans h h1
            · rw [h]; exact h1
            · exact absurd h (hpw j (p - 1) (by omega) (by omega))
        · rw [List.mem_append, i2, List.mem_singleton]
          constructor
          · rintro (⟨j, hj, e⟩ | e)
            · exact ⟨j, by omega, e⟩
            · exact ⟨p, by omega, e.symm⟩
          · rintro ⟨j, hj, e⟩
            by_cases ej : j = p
            · subst ej; exact .inr e.symm
            · exact .inl ⟨j, by omega, e⟩
      · rw [hk, decide_eq_false hkp, if_neg (by decide), List.append_nil]
        have hp0 : 0 < p := by omega
        have he : m.getD p default = m.getD (p - 1) default := by
          by_cases e : m.getD p default = m.getD (p - 1) default
          · exact e
          · exact absurd (.inr e) hkp
        refine ⟨i1, fun x => ?_, fun _ => ?_⟩
        · rw [i2]
          constructor
          · rintro ⟨j, hj, e⟩; exact ⟨j, by omega, e⟩
          · rintro ⟨j, hj, e⟩
            by_cases ej : j = p
            · subst ej; exact ⟨j - 1, by omega, by rw [← he]; exact e⟩
            · exact ⟨j, by omega, e⟩
        · obtain ⟨l, hl⟩ := i3 hp0
          exact ⟨l, by rw [hl, he]⟩
  obtain ⟨k1, k2, _⟩ := key m.length (Nat.le_refl _)
  refine ⟨k1, fun x => ?_⟩
  rw [k2]
  constructor
  · rintro ⟨j, hj, rfl⟩; exact hmem j hj
  · intro hx
    obtain ⟨j, hj, rfl⟩ := List.mem_iff_getElem.1 hx
    exact ⟨j, hj, by rw [List.getD_eq_getElem?_getD, List.getElem?_eq_getElem hj]; rfl⟩

/-- What is wrong with a contract, its days, or its numbers. -/
noncomputable def erD (t : List Nd) (lf lc : List Fct) (fr tu : Int) : Int := if chkK t ≠ 0 then (chkK t : Nat) else if badD fr tu then 18 else if dn t (envL lf lc) tu ⟨0, fr, 1⟩ = none then 11 else 0
noncomputable def reD (t : List Nd) (lf lc : List Fct) (fr tu : Int) : List Flw × List Wat := (dn t (envL lf lc) tu ⟨0, fr, 1⟩).getD ([], [])
theorem erD_zero {t : List Nd} {lf lc : List Fct} {fr tu : Int} (h : erD t lf lc fr tu = 0) : chkK t = 0 ∧ ¬ badD fr tu ∧ dn t (envL lf lc) tu ⟨0, fr, 1⟩ = some (reD t lf lc fr tu) := by
  unfold erD at h
  by_cases c : chkK t ≠ 0
  · rw [if_pos c] at h; omega
  · rw [if_neg c] at h
    by_cases d : badD fr tu
    · rw [if_pos d] at h; cases h
    · rw [if_neg d] at h
      by_cases e : dn t (envL lf lc) tu ⟨0, fr, 1⟩ = none
      · rw [if_pos e] at h; cases h
      · refine ⟨by omega, d, ?_⟩
        unfold reD
        cases hd : dn t (envL lf lc) tu ⟨0, fr, 1⟩ with
        | none => exact absurd hd e
        | some r => rfl
theorem go_split {w : World} {t : List Nd} {lf lc : List Fct} {tv : Value} {fr tu : Int} {B : Nat} {e : Ending} {w' : World} (h : GoQ w t lf lc tv fr tu B e w') :
    (erD t lf lc fr tu ≠ 0 ∧ e = .returned (.tuple #[zRd, .int .i64 (erD t lf lc fr tu)]) ∧ Below w.heap.size w w') ∨
    (erD t lf lc fr tu = 0 ∧ ∃ fv wv fl ws, e = .returned (.tuple #[.agg #[tv, .int .i64 tu, .pointer (some ⟨B, 0, none⟩), fv, wv], .int .i64 0]) ∧ OwnX flL 3 50 w' w.heap.size fv fl ∧ OwnX waL 3 46 w' w.heap.size wv ws ∧ Aprt fv wv ∧ fl.Perm (reD t lf lc fr tu).1 ∧ ws.Perm (reD t lf lc fr tu).2 ∧ fl.length ≤ 64 ∧ ws.length ≤ 8192 ∧ Below w.heap.size w w') := by
  unfold GoQ at h
  unfold erD reD
  by_cases c : chkK t ≠ 0
  · rw [if_pos c] at h ⊢
    exact .inl ⟨by omega, h⟩
  · rw [if_neg c] at h ⊢
    by_cases d : badD fr tu
    · rw [if_pos d] at h ⊢
      exact .inl ⟨by decide, h⟩
    · rw [if_neg d] at h ⊢
      cases hd : dn t (envL lf lc) tu ⟨0, fr, 1⟩ with
      | none =>
        rw [hd] at h
        exact .inl ⟨by rw [if_pos rfl]; decide, by rw [if_pos rfl]; exact h⟩
      | some r =>
        rw [hd] at h
        exact .inr ⟨by rw [if_neg (by intro e; cases e)], h⟩
/-- What Flows answers, and what Waits does. -/
noncomputable def FloQ (w : World) (t : List Nd) (lf lc : List Fct) (fr tu : Int) (e : Ending) (w' : World) : Prop :=
  Below w.heap.size w w' ∧ ∃ v m, e = .returned (.tuple #[v, .int .i64 (erD t lf lc fr tu)]) ∧ OwnX flL 3 50 w' w.heap.size v m ∧ m.length ≤ 64 ∧ SrF m ∧ (erD t lf lc fr tu ≠ 0 → m = []) ∧ (erD t lf lc fr tu = 0 → m.Perm (reD t lf lc fr tu).1)
noncomputable def WaiQ (w : World) (t : List Nd) (lf lc : List Fct) (fr tu : Int) (e : Ending) (w' : World) : Prop :=
  Below w.heap.size w w' ∧ ∃ v m, e = .returned (.tuple #[v, .int .i64 (erD t lf lc fr tu)]) ∧ OwnX waL 3 46 w' w.heap.size v m ∧ m.length ≤ 8192 ∧ SrW m ∧ (∀ x ∈ m, okW x) ∧ (erD t lf lc fr tu ≠ 0 → m = []) ∧ (erD t lf lc fr tu = 0 → ∀ x, x ∈ m ↔ x ∈ (reD t lf lc fr tu).2)

set_option maxRecDepth 100000 in
set_option maxHeartbeats 2000000 in
theorem flows_any (w : World) (t : List Nd) (hl : t.length ≤ 1000) (hbd : BdT t) (tv : Value) (hv : SlT w tv t) (C : KndW w) (fr tu : Int) {B bf bc nn : Nat} {Df Dc : DataW Unit} (hm : FacM w B bf bc nn Df Dc) {lf lc : List Fct} (rf : RelV vR Df lf) (rc : RelV vI Dc lc) (hof : OkL lf) (hoc : ∀ x ∈ lc, x.p = 1 ∨ x.p = 2) :
    Calls Tryz.prog 9 #[tv, .int .i64 fr, .int .i64 tu, .pointer (some ⟨B, 0, none⟩)] w (FloQ w t lf lc fr tu) := by
  have HGo := Lib.hid (go_any w t hl hbd tv hv C fr tu hm rf rc hof hoc)
  obtain ⟨va, vn, vc, rfl⟩ : ∃ a n c, tv = .slice a n c := by
    obtain ⟨a, c, h⟩ := hv.slice
    exact ⟨_, _, _, h⟩
  clear hbd hv C hm rf rc hof hoc
  go_enter Tryz.func9, Tryz.ntmps9
  go_wp2_with fail
  refine HGo.out.mono ?_
  rintro e w1 hq
  rcases go_split hq with ⟨h1, rfl, hb⟩ | ⟨h1, fv, wv, fl, ws, rfl, hof, how, hap, hpf, hpw, hlf, hlw, hb⟩
  · have HE := Lib.hid h1
    have HB := Lib.hid hb
    have hc1 : (erD t lf lc fr tu != 0) = true := bne_iff_ne.2 h1
    have hc2 : (erD t lf lc fr tu == 0) = false := beq_false_of_ne h1
    generalize hEr : erD t lf lc fr tu = er at *
    have HEr := Lib.hid hEr
    clear hq h1 hb HGo hEr
    unfold zRd
    go_wp2_with fail
    go_ret2
    refine ⟨onF HB.out (newF _ _), _, [], by rw [HEr.out]; rfl, OwnX.nil _ _ _ _ _, by simp, List.Pairwise.nil, fun _ => rfl, fun h => absurd (HEr.out.symm.trans h) HE.out⟩
  · have hb2 := newF w1 (.cells #[.slice va vn vc, .int .i64 tu, .pointer (some ⟨B, 0, none⟩), fv, wv] 68)
    have HB := Lib.hid (onF hb hb2)
    have r3 : (w1.alloc (.cells #[.slice va vn vc, .int .i64 tu, .pointer (some ⟨B, 0, none⟩), fv, wv] 68)).cell? ⟨w1.heap.size, 3, none⟩ = some fv := by rw [World.cell?_alloc_at _ _ _ _ rfl]; rfl
    have HR3 := Lib.hid r3
    have HSo := Lib.hid (sortfl (hof.grown hb2) (by omega))
    have HN : Hid (fv.ownBlock ≠ some w1.heap.size) := Lib.hid (fun e => by have := (hof.lt _ e).2; omega)
    have HBs : Hid (∀ k, fv.ownBlock = some k → w.heap.size ≤ k) := Lib.hid (fun k e => (hof.lt _ e).1)
    have HPf := Lib.hid (And.intro hpf (And.intro hlf h1))
    obtain ⟨fa, fc, rfl⟩ := hof.slice
    obtain ⟨wa, wc, rfl⟩ := how.slice
    clear hq h1 hb hb2 HGo hof how hap hpf hpw hlf hlw
    go_wp2_with fail
    generalize w1.alloc (.cells #[.slice va vn vc, .int .i64 tu, .pointer (some ⟨B, 0, none⟩), .slice fa fl.length fc, .slice wa ws.length wc] 68) = w2 at *
    refine HSo.out.mono ?_
    rintro e w3 ⟨rfl, m, hs, hp, hom, hg⟩
    have r3 := cellB hg r3 HN.out
    have HM := Lib.hid (And.intro hs (And.intro hp hom))
    have HB3 := Lib.hid (HB.out.grown hg HB.out.size (fun k hk => HBs.out k hk))
    clear hs hp hom hg
    go_wp2_with fail
    go_ret2
    refine ⟨HB3.out, _, m, by rw [HPf.out.2.2]; rfl, HM.out.2.2, by rw [HM.out.2.1.length_eq]; exact HPf.out.2.1, HM.out.1, fun h => absurd HPf.out.2.2 h, fun _ => HM.out.2.1.trans HPf.out.1⟩

set_option maxRecDepth 100000 in
set_option maxHeartbeats 2000000 in
theorem waits_any (w : World) (t : List Nd) (hl : t.length ≤ 1000) (hbd : BdT t) (tv : Value) (hv : SlT w tv t) (C : KndW w) (fr tu : Int) {B bf bc nn : Nat} {Df Dc : DataW Unit} (hm : FacM w B bf bc nn Df Dc) {lf lc : List Fct} (rf : RelV vR Df lf) (rc : RelV vI Dc lc) (hof : OkL lf) (hoc : ∀ x ∈ lc, x.p = 1 ∨ x.p = 2) :
    Calls Tryz.prog 10 #[tv, .int .i64 fr, .int .i64 tu, .pointer (some ⟨B, 0, none⟩)] w (WaiQ w t lf lc fr tu) := by
  have HGo := Lib.hid (go_any w t hl hbd tv hv C fr tu hm rf rc hof hoc)
  have hwk : erD t lf lc fr tu = 0 → ∀ x ∈ (reD t lf lc fr tu).2, okW x := fun h => by
    obtain ⟨c, d, e⟩ := erD_zero h
    have hk := chk_mk c
    have hE := env_ok (⟨hv, hbd, hk.1, C, hm, rf, rc, hof, hoc⟩ : CtxD w t tv B bf bc nn Df Dc lf lc)
    have h0 : CtA t 0 := ⟨by have := (ofK_zero hk.1).2.1; have := whole_len this; omega, hk.2⟩
    have ht : tu ≤ 73048 := by unfold badD at d; omega
    exact dn_wok hk.1 hE ht (x := ⟨0, fr, 1⟩) h0 (fl := (reD t lf lc fr tu).1) (ws := (reD t lf lc fr tu).2) e
  have HWk := Lib.hid hwk
  obtain ⟨va, vn, vc, rfl⟩ : ∃ a n c, tv = .slice a n c := by
    obtain ⟨a, c, h⟩ := hv.slice
    exact ⟨_, _, _, h⟩
  clear hbd hv C hm rf rc hof hoc hwk
  go_enter Tryz.func10, Tryz.ntmps10
  go_wp2_with fail
  refine HGo.out.mono ?_
  rintro e w1 hq
  rcases go_split hq with ⟨h1, rfl, hb⟩ | ⟨h1, fv, wv, fl, ws, rfl, hof, how, hap, hpf, hpw, hlf, hlw, hb⟩
  · have HE := Lib.hid h1
    have HB := Lib.hid hb
    have hc1 : (erD t lf lc fr tu != 0) = true := bne_iff_ne.2 h1
    have hc2 : (erD t lf lc fr tu == 0) = false := beq_false_of_ne h1
    generalize hEr : erD t lf lc fr tu = er at *
    have HEr := Lib.hid hEr
    clear hq h1 hb HGo hEr
    unfold zRd
    go_wp2_with fail
    go_ret2
    refine ⟨onF HB.out (newF _ _), _, [], by rw [HEr.out]; rfl, OwnX.nil _ _ _ _ _, by simp, List.Pairwise.nil, fun x hx => (by cases hx), fun _ => rfl, fun h => absurd (HEr.out.symm.trans h) HE.out⟩
  · have hb2 := newF w1 (.cells #[.slice va vn vc, .int .i64 tu, .pointer (some ⟨B, 0, none⟩), fv, wv] 68)
    have HB := Lib.hid (onF hb hb2)
    have r4 : (w1.alloc (.cells #[.slice va vn vc, .int .i64 tu, .pointer (some ⟨B, 0, none⟩), fv, wv] 68)).cell? ⟨w1.heap.size, 4, none⟩ = some wv := by rw [World.cell?_alloc_at _ _ _ _ rfl]; rfl
    have HSo := Lib.hid (sortwt (how.grown hb2) (by omega))
    have HN : Hid (wv.ownBlock ≠ some w1.heap.size) := Lib.hid (fun e => by have := (how.lt _ e).2; omega)
    have HBs : Hid (∀ k, wv.ownBlock = some k → w.heap.size ≤ k) := Lib.hid (fun k e => (how.lt _ e).1)
    have HPf := Lib.hid (And.intro hpw (And.intro hlw (And.intro h1 (HWk.out h1))))
    obtain ⟨fa, fc, rfl⟩ := hof.slice
    obtain ⟨wa, wc, rfl⟩ := how.slice
    clear hq h1 hb hb2 HGo hof how hap hpf hpw hlf hlw HWk
    go_wp2_with fail
    generalize w1.alloc (.cells #[.slice va vn vc, .int .i64 tu, .pointer (some ⟨B, 0, none⟩), .slice fa fl.length fc, .slice wa ws.length wc] 68) = w2 at *
    refine HSo.out.mono ?_
    rintro e w3 ⟨rfl, m, hs, hp, hom, hg⟩
    have r4 := cellB hg r4 HN.out
    have hok : ∀ x ∈ m, okW x := fun x hx => HPf.out.2.2.2 x (HPf.out.1.mem_iff.1 (hp.mem_iff.1 hx))
    have hml : m.length ≤ 8192 := by rw [hp.length_eq]; exact HPf.out.2.1
    have HCo := Lib.hid (compact_any hom (by omega) (fun j hj => hok _ (by rw [List.getD_eq_getElem?_getD, List.getElem?_eq_getElem hj]; exact List.getElem_mem hj)))
    have HM := Lib.hid (And.intro (comp_srt hs hok) (And.intro hp (And.intro hok hml)))
    have HB3 := Lib.hid (HB.out.grown hg HB.out.size (fun k hk => HBs.out k hk))
    clear hs hp hom hg hok hml HSo
    go_wp2_with fail
    refine HCo.out.mono ?_
    rintro e w4 ⟨v', rfl, ho4, hg4⟩
    have HO4 := Lib.hid ho4
    have HB4 := Lib.hid (HB3.out.grown hg4 HB3.out.size (fun k hk => HBs.out k hk))
    obtain ⟨sa, sc, rfl⟩ := ho4.slice
    clear ho4 hg4 r4
    have HLn : Hid ((Go.Lib.compactUpTo m.toArray m.length).length ≤ 8192) := Lib.hid (by
      have h := List.length_filter_le (Go.Lib.keeps m.toArray) (List.range m.length)
      have h2 := HM.out.2.2.2
      unfold Go.Lib.compactUpTo
      rw [List.length_map]
      rw [List.length_range] at h
      omega)
    generalize Go.Lib.compactUpTo m.toArray m.length = cm at *
    go_wp2_with fail
    go_ret2
    refine ⟨HB4.out, _, cm, by rw [HPf.out.2.2.1]; rfl, HO4.out, HLn.out, HM.out.1.1, fun x hx => HM.out.2.2.1 x ((HM.out.1.2 x).1 hx), fun h => absurd HPf.out.2.2.1 h, fun _ x => (HM.out.1.2 x).trans ((HM.out.2.1.mem_iff).trans HPf.out.1.mem_iff)⟩

end Go.Proofs.YtgeneoamngfomaaGreatDoor

namespace Go.Proofs.YtgeneoamngfomaaGreatDoor
open Go.RowKit Go.Lib Go.Shelf Go.Maps
set_option linter.unusedVariables false
set_option linter.unusedSimpArgs false

/-- The choices of what is told are 1 or 2. -/
theorem plC_ok (L : List Tol) : ∀ x ∈ plC L, x.p = 1 ∨ x.p = 2 := by
  have key : ∀ (L : List Tol), ∀ a : List Fct, (∀ x ∈ a, x.p = 1 ∨ x.p = 2) → ∀ x ∈ L.foldl (fun a t => if t.c = true then (if tolE t = 0 then putL a ⟨t.k, t.d, 0, 0, t.p⟩ else a) else a) a, x.p = 1 ∨ x.p = 2 := by
    intro L
    induction L with
    | nil => exact fun a h => h
    | cons x L ih =>
      intro a h
      rw [List.foldl_cons]
      refine ih _ ?_
      by_cases hc : x.c = true
      · rw [if_pos hc]
        by_cases he : tolE x = 0
        · rw [if_pos he]
          intro t ht
          rcases mem_put.1 ht with rfl | ⟨ht, _⟩
          · unfold tolE at he
            rw [if_pos hc] at he
            unfold choE at he
            by_cases hp : x.p < 1 ∨ 2 < x.p
            · rw [if_pos hp] at he; omega
            · show x.p = 1 ∨ x.p = 2
              omega
          · exact h t ht
        · rw [if_neg he]; exact h
      · rw [if_neg hc]; exact h
  exact key L [] (fun t h => by cases h)
theorem env_okL {lf lc : List Fct} (hf : OkL lf) (hc : ∀ x ∈ lc, x.p = 1 ∨ x.p = 2) : (envL lf lc).Ok where
  fits := fun d k r hr => fx_fits hf d k r hr
  pick := fun k d => by
    show (match lc.find? (isG k d) with | some t => t.p | none => 0) = 0 ∨ (match lc.find? (isG k d) with | some t => t.p | none => 0) = 1 ∨ (match lc.find? (isG k d) with | some t => t.p | none => 0) = 2
    cases h : lc.find? (isG k d) with
    | none => exact .inl rfl
    | some x => exact .inr (hc x (List.mem_of_find?_eq_some h))
  first := fun k f u d hd => by
    obtain ⟨t, ht, rfl⟩ := Option.map_eq_some_iff.1 (show (lc.find? (isH k f u 1)).map (fun t => t.d) = some d from hd)
    have := isH_iff.1 (List.find?_some ht)
    exact ⟨this.2.1, this.2.2.1⟩
/-- The example's contract. -/
def tAw : List Nd := [⟨12, 0, 0, 0, 0⟩, ⟨10, 0, 0, 0, 0⟩, ⟨13, 0, 0, 0, 0⟩, ⟨2, 1, 0, 0, 0⟩, ⟨10, 1, 0, 0, 0⟩]
theorem tAw_of : ofK tAw = (2, 0) := by
  rw [ofK_yes (by decide) (by decide) ?_ ?_ (by decide)]
  · rfl
  · intro p hp
    have hp' : p < 5 := hp
    rcases (show p = 0 ∨ p = 1 ∨ p = 2 ∨ p = 3 ∨ p = 4 by omega) with rfl | rfl | rfl | rfl | rfl <;> decide
  · intro p hp
    have hp' : p < 5 := hp
    unfold SrtA
    rcases (show p = 0 ∨ p = 1 ∨ p = 2 ∨ p = 3 ∨ p = 4 by omega) with rfl | rfl | rfl | rfl | rfl <;> decide
theorem tAw_chk : chkK tAw = 0 := by
  unfold chkK
  rw [tAw_of]
  decide
theorem tAw_bd : BdT tAw := fun p hp => by
  have hp' : p < 5 := hp
  rcases (show p = 0 ∨ p = 1 ∨ p = 2 ∨ p = 3 ∨ p = 4 by omega) with rfl | rfl | rfl | rfl | rfl <;> exact ⟨⟨by decide, by decide⟩, ⟨by decide, by decide⟩⟩
theorem tAw_ct (p : Nat) (hp : p < 5) (h : mkO (opA tAw p) = 2) : CtA tAw p := ⟨hp, h⟩
theorem tAw_nm : NmA tAw 3 := (num_at (t := tAw) (n := 3) (by rw [tAw_of]) (by decide) (by decide)).1
theorem envN : (envL [] []).Ok := env_okL (fun t h => by cases h) (fun t h => by cases h)
theorem fxN (k d : Int) : fxL [] d k = none := by
  unfold fxL
  have e : gtL [] k d = (0, 0, false) := rfl
  rw [e]; rfl
theorem rnd_one : rnd 1 = 1 := by decide +kernel
theorem tAw_ky : kyU tAw 3 = [1] := by
  unfold kyU
  decide +kernel
theorem tAw_ask : askW tAw (envL [] []) 5 3 = [⟨5, 0, 1⟩] := by
  unfold askW
  rw [tAw_ky]
  show (List.filter (fun k => (fxL [] 5 k).isNone) [1]).map _ = _
  simp [fxN]
theorem tAw_dn : dn tAw (envL [] []) 9 ⟨0, 5, 1⟩ = some ([⟨5, 0, 1⟩], [⟨5, 0, 1⟩]) := by
  have h0 : (ofK tAw).2 = 0 := by rw [tAw_of]
  have d1 : dn tAw (envL [] []) 9 ⟨1, 5, 1⟩ = some ([⟨5, 0, 1⟩], []) := by
    rw [dn_eq h0 envN (by decide) (tAw_ct 1 (by decide) (by decide)) (by decide), stp_one (by decide)]
    dsimp only
    rw [rnd_one]
    rfl
  have d2 : dn tAw (envL [] []) 9 ⟨2, 5, 1⟩ = some ([], [⟨5, 0, 1⟩]) := by
    rw [dn_eq h0 envN (by decide) (tAw_ct 2 (by decide) (by decide)) (by decide), stp_scale (by decide)]
    dsimp only
    have e : kid tAw 2 0 = 3 := by decide
    rw [e, vl_fix tAw_nm (by decide)]
    have e1 : (envL [] []).fx 5 (tAw.getD 3 default).a = none := fxN 1 5
    rw [e1]
    dsimp only
    rw [tAw_ask]
    rfl
  rw [dn_eq h0 envN (by decide) (tAw_ct 0 (by decide) (by decide)) (by decide), stp_and (by decide)]
  dsimp only
  have e0 : kid tAw 0 0 = 1 := by decide
  have e1 : kid tAw 0 1 = 2 := by decide
  rw [e0, e1, List.map_cons, List.map_cons, d1, d2]
  rfl
theorem tAw_er : erD tAw [] [] 5 9 = 0 := by
  unfold erD
  rw [tAw_chk, if_neg (by decide), if_neg (by decide), if_neg (by rw [tAw_dn]; simp)]
theorem tAw_re : reD tAw [] [] 5 9 = ([⟨5, 0, 1⟩], [⟨5, 0, 1⟩]) := by
  unfold reD
  rw [tAw_dn]
  rfl

end Go.Proofs.YtgeneoamngfomaaGreatDoor

namespace Go.Proofs.YtgeneoamngfomaaGreatDoor
open Go.RowKit Go.Lib Go.Shelf Go.Maps
set_option linter.unusedVariables false
set_option linter.unusedSimpArgs false

theorem below_drewE (w : World) (q : Nat) : Below w.heap.size w (w.drewN q) := ⟨rfl, rfl, rfl, Nat.le_refl _, fun _ _ => rfl⟩
set_option maxRecDepth 100000 in
set_option maxHeartbeats 2000000 in
theorem flows_eq (w : World) (m : List Flw) (va vb : Value) (ha : RowX flL 3 w va m) (hb : RowX flL 3 w vb m) :
    Calls Tryz.prog 14 #[va, vb] w fun e w' => e = .returned (.bool true) ∧ Below w.heap.size w w' := by
  obtain ⟨aa, ac, rfl⟩ := ha.slice
  obtain ⟨ba, bc, rfl⟩ := hb.slice
  have HA := Lib.hid ha
  have HB := Lib.hid hb
  clear ha hb
  go_enter Tryz.func14, Tryz.ntmps14
  go_wp2_with fail
  go_loopw [5] (fun vi wx => ∃ j : Nat, j ≤ m.length ∧ vi = .int .i64 (j : Nat) ∧ ∃ q, wx = w.drewN q) (fun vi _ => m.length - (RowKit.intOf vi).toNat)
  case atStart => exact ⟨0, Nat.zero_le _, rfl, 0, rfl⟩
  case round =>
    obtain ⟨j, hj, rfl, q, hwx⟩ := hrel
    have HRa : Hid (RowX flL 3 wr (.slice aa m.length ac) m) := Lib.hid (by rw [hwx]; exact HA.out.keep (below_drewE _ _))
    have HRb : Hid (RowX flL 3 wr (.slice ba m.length bc) m) := Lib.hid (by rw [hwx]; exact HB.out.keep (below_drewE _ _))
    have HQ := Lib.hid hwx
    clear hwx
    by_cases hlt : j < m.length
    · have q0 : (0 : Int) ≤ (j : Int) := by omega
      have q1 : (j : Int) < (m.length : Int) := by omega
      obtain ⟨ga, oa, ca1, hv, hf1, hf2, hTa⟩ : ∃ g o cap, Value.slice aa m.length ac = .slice (some ⟨g, o, none⟩) m.length cap ∧ m.length ≤ cap ∧ cap ≤ 9223372036854775807 ∧ ∀ j, j < m.length → ∀ i c, i < 3 → (flL (m.getD j default))[i]? = some c → wr.cell? ⟨g, o + j * 3 + i, none⟩ = some c := by
        rcases HRa.out with ⟨e, _⟩ | ⟨_, g, o, cap, h1, h2, h3, h4⟩
        · rw [e] at hlt; exact absurd hlt (Nat.not_lt_zero _)
        · exact ⟨g, o, cap, h1, h2, h3, h4⟩
      injection hv with hv1 _ hv3
      subst hv1 hv3
      obtain ⟨gb, ob, cb1, hv, hg1, hg2, hTb⟩ : ∃ g o cap, Value.slice ba m.length bc = .slice (some ⟨g, o, none⟩) m.length cap ∧ m.length ≤ cap ∧ cap ≤ 9223372036854775807 ∧ ∀ j, j < m.length → ∀ i c, i < 3 → (flL (m.getD j default))[i]? = some c → wr.cell? ⟨g, o + j * 3 + i, none⟩ = some c := by
        rcases HRb.out with ⟨e, _⟩ | ⟨_, g, o, cap, h1, h2, h3, h4⟩
        · rw [e] at hlt; exact absurd hlt (Nat.not_lt_zero _)
        · exact ⟨g, o, cap, h1, h2, h3, h4⟩
      injection hv with hv1 _ hv3
      subst hv1 hv3
      have k0 : wr.cell? ⟨ga, oa + j * 3, none⟩ = some (.int .i64 (m.getD j default).d) := hTa j hlt 0 _ (by omega) rfl
      have k1 : wr.cell? ⟨ga, oa + j * 3 + 1, none⟩ = some (.int .i64 (m.getD j default).c) := hTa j hlt 1 _ (by omega) rfl
      have k2 : wr.cell? ⟨ga, oa + j * 3 + 2, none⟩ = some (.int .i64 (m.getD j default).n) := hTa j hlt 2 _ (by omega) rfl
      have m0 : wr.cell? ⟨gb, ob + j * 3, none⟩ = some (.int .i64 (m.getD j default).d) := hTb j hlt 0 _ (by omega) rfl
      have m1 : wr.cell? ⟨gb, ob + j * 3 + 1, none⟩ = some (.int .i64 (m.getD j default).c) := hTb j hlt 1 _ (by omega) rfl
      have m2 : wr.cell? ⟨gb, ob + j * 3 + 2, none⟩ = some (.int .i64 (m.getD j default).n) := hTb j hlt 2 _ (by omega) rfl
      have HLt := Lib.hid hlt
      generalize m.getD j default = y at *
      obtain ⟨yd, yc, yn⟩ := y
      dsimp only at k0 k1 k2 m0 m1 m2
      clear hTa hTb hlt HRa HRb
      go_wp2_with fail
      go_quiet (fail)
      go_wp2_with fail
      go_roundw
      case rel => exact ⟨j + 1, HLt.out, by go_num, q + nq, by rw [HQ.out, World.drewN_drewN]⟩
      case measure => have := HLt.out; simp [RowKit.intOf]; omega
    · have hje : j = m.length := by omega
      subst hje
      have q1 : ¬ (m.length : Int) < (m.length : Int) := by omega
      have HBq : Hid (Below w.heap.size w wr) := Lib.hid (by rw [HQ.out]; exact below_drewE _ _)
      clear HRa HRb HQ hlt hj
      go_wp2_with fail
      go_ret
      exact ⟨rfl, HBq.out⟩

set_option maxRecDepth 100000 in
set_option maxHeartbeats 2000000 in
theorem waits_eq (w : World) (m : List Wat) (va vb : Value) (ha : RowX waL 3 w va m) (hb : RowX waL 3 w vb m) :
    Calls Tryz.prog 19 #[va, vb] w fun e w' => e = .returned (.bool true) ∧ Below w.heap.size w w' := by
  obtain ⟨aa, ac, rfl⟩ := ha.slice
  obtain ⟨ba, bc, rfl⟩ := hb.slice
  have HA := Lib.hid ha
  have HB := Lib.hid hb
  clear ha hb
  go_enter Tryz.func19, Tryz.ntmps19
  go_wp2_with fail
  go_loopw [5] (fun vi wx => ∃ j : Nat, j ≤ m.length ∧ vi = .int .i64 (j : Nat) ∧ ∃ q, wx = w.drewN q) (fun vi _ => m.length - (RowKit.intOf vi).toNat)
  case atStart => exact ⟨0, Nat.zero_le _, rfl, 0, rfl⟩
  case round =>
    obtain ⟨j, hj, rfl, q, hwx⟩ := hrel
    have HRa : Hid (RowX waL 3 wr (.slice aa m.length ac) m) := Lib.hid (by rw [hwx]; exact HA.out.keep (below_drewE _ _))
    have HRb : Hid (RowX waL 3 wr (.slice ba m.length bc) m) := Lib.hid (by rw [hwx]; exact HB.out.keep (below_drewE _ _))
    have HQ := Lib.hid hwx
    clear hwx
    by_cases hlt : j < m.length
    · have q0 : (0 : Int) ≤ (j : Int) := by omega
      have q1 : (j : Int) < (m.length : Int) := by omega
      obtain ⟨ga, oa, ca1, hv, hf1, hf2, hTa⟩ : ∃ g o cap, Value.slice aa m.length ac = .slice (some ⟨g, o, none⟩) m.length cap ∧ m.length ≤ cap ∧ cap ≤ 9223372036854775807 ∧ ∀ j, j < m.length → ∀ i c, i < 3 → (waL (m.getD j default))[i]? = some c → wr.cell? ⟨g, o + j * 3 + i, none⟩ = some c := by
        rcases HRa.out with ⟨e, _⟩ | ⟨_, g, o, cap, h1, h2, h3, h4⟩
        · rw [e] at hlt; exact absurd hlt (Nat.not_lt_zero _)
        · exact ⟨g, o, cap, h1, h2, h3, h4⟩
      injection hv with hv1 _ hv3
      subst hv1 hv3
      obtain ⟨gb, ob, cb1, hv, hg1, hg2, hTb⟩ : ∃ g o cap, Value.slice ba m.length bc = .slice (some ⟨g, o, none⟩) m.length cap ∧ m.length ≤ cap ∧ cap ≤ 9223372036854775807 ∧ ∀ j, j < m.length → ∀ i c, i < 3 → (waL (m.getD j default))[i]? = some c → wr.cell? ⟨g, o + j * 3 + i, none⟩ = some c := by
        rcases HRb.out with ⟨e, _⟩ | ⟨_, g, o, cap, h1, h2, h3, h4⟩
        · rw [e] at hlt; exact absurd hlt (Nat.not_lt_zero _)
        · exact ⟨g, o, cap, h1, h2, h3, h4⟩
      injection hv with hv1 _ hv3
      subst hv1 hv3
      have k0 : wr.cell? ⟨ga, oa + j * 3, none⟩ = some (.bool (decide ((m.getD j default).h = 1))) := hTa j hlt 0 _ (by omega) rfl
      have k1 : wr.cell? ⟨ga, oa + j * 3 + 1, none⟩ = some (.int .i64 (m.getD j default).k) := hTa j hlt 1 _ (by omega) rfl
      have k2 : wr.cell? ⟨ga, oa + j * 3 + 2, none⟩ = some (.int .i64 (m.getD j default).d) := hTa j hlt 2 _ (by omega) rfl
      have m0 : wr.cell? ⟨gb, ob + j * 3, none⟩ = some (.bool (decide ((m.getD j default).h = 1))) := hTb j hlt 0 _ (by omega) rfl
      have m1 : wr.cell? ⟨gb, ob + j * 3 + 1, none⟩ = some (.int .i64 (m.getD j default).k) := hTb j hlt 1 _ (by omega) rfl
      have m2 : wr.cell? ⟨gb, ob + j * 3 + 2, none⟩ = some (.int .i64 (m.getD j default).d) := hTb j hlt 2 _ (by omega) rfl
      have HLt := Lib.hid hlt
      generalize m.getD j default = y at *
      obtain ⟨yd, yc, yn⟩ := y
      dsimp only at k0 k1 k2 m0 m1 m2
      clear hTa hTb hlt HRa HRb
      generalize decide (yc = 1) = yb at *
      go_wp2_with fail
      go_quiet (fail)
      go_wp2_with fail
      go_roundw
      case rel => exact ⟨j + 1, HLt.out, by go_num, q + nq, by rw [HQ.out, World.drewN_drewN]⟩
      case measure => have := HLt.out; simp [RowKit.intOf]; omega
    · have hje : j = m.length := by omega
      subst hje
      have q1 : ¬ (m.length : Int) < (m.length : Int) := by omega
      have HBq : Hid (Below w.heap.size w wr) := Lib.hid (by rw [HQ.out]; exact below_drewE _ _)
      clear HRa HRb HQ hlt hj
      go_wp2_with fail
      go_ret
      exact ⟨rfl, HBq.out⟩

set_option maxRecDepth 100000 in
theorem few_any (w : World) (a b : Option Addr) (n m ca cb : Nat) (fr tu : Int) :
    Calls Tryz.prog 7 #[.agg #[.slice a n ca, .int .i64 fr, .int .i64 tu, .slice b m cb]] w fun e w' => e = .returned (.bool (decide (n ≤ 100 ∧ m ≤ 60))) ∧ Below w.heap.size w w' := by
  have HB := Lib.hid (newF w (.cells #[.slice a n ca, .int .i64 fr, .int .i64 tu, .slice b m cb] 25))
  have r0 : (w.alloc (.cells #[.slice a n ca, .int .i64 fr, .int .i64 tu, .slice b m cb] 25)).cell? ⟨w.heap.size, 0, none⟩ = some (.slice a n ca) := by rw [World.cell?_alloc_at _ _ _ _ rfl]; rfl
  have r3 : (w.alloc (.cells #[.slice a n ca, .int .i64 fr, .int .i64 tu, .slice b m cb] 25)).cell? ⟨w.heap.size, 3, none⟩ = some (.slice b m cb) := by rw [World.cell?_alloc_at _ _ _ _ rfl]; rfl
  by_cases h1 : (n : Int) ≤ 100
  · by_cases h2 : (m : Int) ≤ 60
    · have e : decide (n ≤ 100 ∧ m ≤ 60) = true := by simp; omega
      rw [e]
      clear e
      go_enter Tryz.func7, Tryz.ntmps7
      go_wp2_with fail
      go_ret
      exact ⟨rfl, HB.out⟩
    · have e : decide (n ≤ 100 ∧ m ≤ 60) = false := by simp; omega
      rw [e]
      clear e
      go_enter Tryz.func7, Tryz.ntmps7
      go_wp2_with fail
      go_ret
      exact ⟨rfl, HB.out⟩
  · have e : decide (n ≤ 100 ∧ m ≤ 60) = false := by simp; omega
    rw [e]
    clear e
    go_enter Tryz.func7, Tryz.ntmps7
    go_wp2_with fail
    go_ret
    exact ⟨rfl, HB.out⟩

end Go.Proofs.YtgeneoamngfomaaGreatDoor

namespace Go.Proofs.YtgeneoamngfomaaGreatDoor
open Go.RowKit Go.Lib Go.Shelf Go.Maps
set_option linter.unusedVariables false
set_option linter.unusedSimpArgs false

theorem one_flow {m : List Flw} {x : Flw} (h : m.Perm [x]) : m = [x] := by
  have := h.symm
  simpa using List.perm_singleton.1 h
theorem one_wait {m : List Wat} {x : Wat} (h : SrW m) (hm : ∀ y, y ∈ m ↔ y ∈ [x]) : m = [x] := srW_uniq h (by unfold SrW; simp) hm
set_option maxRecDepth 100000 in
set_option maxHeartbeats 4000000 in
theorem awake9_any (w : World) (C : KndW w) : Calls Tryz.prog 8 #[] w fun e w' => e = .returned (.bool true) ∧ Below w.heap.size w w' := by
  have HNw := Lib.hid (fun (w' : World) => fnew_any w')
  have HFl := Lib.hid (fun (w' : World) (v : Value) (B bf bc : Nat) (hs : SlT w' v tAw) (hC : KndW w') (hm : FacM w' B bf bc 0 (.map []) (.map [])) => flows_any w' tAw (by decide) tAw_bd v hs hC 5 9 hm (RelV.start vR) (RelV.start vI) (fun t h => by cases h) (fun t h => by cases h))
  have HWa := Lib.hid (fun (w' : World) (v : Value) (B bf bc : Nat) (hs : SlT w' v tAw) (hC : KndW w') (hm : FacM w' B bf bc 0 (.map []) (.map [])) => waits_any w' tAw (by decide) tAw_bd v hs hC 5 9 hm (RelV.start vR) (RelV.start vI) (fun t h => by cases h) (fun t h => by cases h))
  have HFe := Lib.hid (fun (w' : World) (m : List Flw) (va vb : Value) (ha : RowX flL 3 w' va m) (hb : RowX flL 3 w' vb m) => flows_eq w' m va vb ha hb)
  have HC := Lib.hid C
  have hlit : SlT (w.alloc (.cells #[.int .i64 12, .int .i64 0, .int .i64 0, .int .i64 0, .int .i64 0, .int .i64 10, .int .i64 0, .int .i64 0, .int .i64 0, .int .i64 0, .int .i64 13, .int .i64 0, .int .i64 0, .int .i64 0, .int .i64 0, .int .i64 2, .int .i64 1, .int .i64 0, .int .i64 0, .int .i64 0, .int .i64 10, .int .i64 1, .int .i64 0, .int .i64 0, .int .i64 0] 60)) (.slice (some ⟨w.heap.size, 0, none⟩) 5 5) tAw := by
    refine .inr ⟨by decide, w.heap.size, 0, 5, rfl, by decide, by decide, fun j hj => ?_⟩
    have hj' : j < 5 := hj
    rcases (show j = 0 ∨ j = 1 ∨ j = 2 ∨ j = 3 ∨ j = 4 by omega) with rfl | rfl | rfl | rfl | rfl
    all_goals refine ⟨?_, ?_, ?_, ?_, ?_⟩
    all_goals rw [World.cell?_alloc_at _ _ _ _ rfl]; rfl
  have HL := Lib.hid hlit
  have HB0 := Lib.hid (newF w (.cells #[.int .i64 12, .int .i64 0, .int .i64 0, .int .i64 0, .int .i64 0, .int .i64 10, .int .i64 0, .int .i64 0, .int .i64 0, .int .i64 0, .int .i64 13, .int .i64 0, .int .i64 0, .int .i64 0, .int .i64 0, .int .i64 2, .int .i64 1, .int .i64 0, .int .i64 0, .int .i64 0, .int .i64 10, .int .i64 1, .int .i64 0, .int .i64 0, .int .i64 0] 60))
  clear C hlit
  go_enter Tryz.func8, Tryz.ntmps8
  go_wp2_with fail
  generalize w.alloc (.cells #[.int .i64 12, .int .i64 0, .int .i64 0, .int .i64 0, .int .i64 0, .int .i64 10, .int .i64 0, .int .i64 0, .int .i64 0, .int .i64 0, .int .i64 13, .int .i64 0, .int .i64 0, .int .i64 0, .int .i64 0, .int .i64 2, .int .i64 1, .int .i64 0, .int .i64 0, .int .i64 0, .int .i64 10, .int .i64 1, .int .i64 0, .int .i64 0, .int .i64 0] 60) = w0 at *
  refine (HNw.out _).mono ?_
  rintro e w1 ⟨B, bf, bc, rfl, hm, hB, hbf, hbc, hb1⟩
  have HB1 := Lib.hid (onF HB0.out hb1)
  have HL1 := Lib.hid (HL.out.keep hb1)
  have HF := Lib.hid (HFl.out w1 _ B bf bc HL1.out (HC.out.keep HB1.out) hm)
  clear hm hB hbf hbc hb1 HL
  go_wp2_with fail
  refine HF.out.mono ?_
  rintro e w2 ⟨hb2, v, m, rfl, ho, hml, hsr, _, hp⟩
  rw [tAw_er]
  have hq : m.Perm [⟨5, 0, 1⟩] := by have := hp tAw_er; rw [tAw_re] at this; exact this
  have hm1 := one_flow hq
  subst hm1
  have HO := Lib.hid ho
  have HB2 := Lib.hid (onF HB1.out hb2)
  have HL2 := Lib.hid (HL1.out.keep hb2)
  obtain ⟨fa, fc, rfl⟩ := ho.slice
  clear ho hb2 hml hsr hp hq HF HL1
  go_wp2_with fail
  refine (HNw.out _).mono ?_
  rintro e w3 ⟨B2, bf2, bc2, rfl, hm, hB, hbf, hbc, hb3⟩
  have HB3 := Lib.hid (onF HB2.out hb3)
  have HL3 := Lib.hid (HL2.out.keep hb3)
  have HO3 := Lib.hid (HO.out.grown hb3)
  have HW := Lib.hid (HWa.out w3 _ B2 bf2 bc2 HL3.out (HC.out.keep HB3.out) hm)
  clear hm hB hbf hbc hb3 HL2 HO
  go_wp2_with fail
  refine HW.out.mono ?_
  rintro e w4 ⟨hb4, v, m, rfl, ho, hml, hsr, hok, _, hp⟩
  rw [tAw_er]
  have hq : ∀ y, y ∈ m ↔ y ∈ [(⟨5, 0, 1⟩ : Wat)] := by have := hp tAw_er; rw [tAw_re] at this; exact this
  have hm1 := one_wait hsr hq
  subst hm1
  have HB4 := Lib.hid (onF HB3.out hb4)
  have HO4 := Lib.hid (HO3.out.grown hb4)
  obtain ⟨g, cap, rfl, hgb, hg1, hg2, hgc⟩ := OwnX.at (E := waL) (k := 3) (fun _ => rfl) ho (Nat.zero_lt_one)
  have HG := Lib.hid (And.intro hg1 hg2)
  have k0 : w4.cell? ⟨g, 0, none⟩ = some (.bool false) := hgc 0 (by decide) 0 _ (by decide) rfl
  have k1 : w4.cell? ⟨g, 1, none⟩ = some (.int .i64 1) := hgc 0 (by decide) 1 _ (by decide) rfl
  have k2 : w4.cell? ⟨g, 2, none⟩ = some (.int .i64 5) := hgc 0 (by decide) 2 _ (by decide) rfl
  have HK := Lib.hid (And.intro k0 (And.intro k1 k2))
  have HO5 := Lib.hid (OwnX.row (E := flL) (k := 3) (fun _ => rfl) HO4.out)
  clear ho hb4 hml hsr hok hp hq HW HL3 HO3 hgb hg1 hg2 hgc k0 k1 k2 HO4
  have HB5 := Lib.hid (onF HB4.out (newF w4 (.cells #[.int .i64 5, .int .i64 0, .int .i64 1] 50)))
  have hrow : RowX flL 3 (w4.alloc (.cells #[.int .i64 5, .int .i64 0, .int .i64 1] 50)) (.slice (some ⟨w4.heap.size, 0, none⟩) 1 1) [⟨5, 0, 1⟩] := by
    refine .inr ⟨Nat.zero_lt_one, w4.heap.size, 0, 1, rfl, Nat.le_refl _, by decide, fun j hj i c hi hc => ?_⟩
    have hj' : j = 0 := by have : j < 1 := hj; omega
    subst hj'
    rw [World.cell?_alloc_at _ _ _ _ rfl]
    rcases (show i = 0 ∨ i = 1 ∨ i = 2 by omega) with rfl | rfl | rfl <;> exact hc
  have HEq := Lib.hid (HFe.out _ [⟨5, 0, 1⟩] _ _ (HO5.out.keep (newF w4 _)) hrow)
  clear hrow HO5 HFe
  go_wp2_with fail
  refine HEq.out.mono ?_
  rintro e w5 ⟨rfl, hb5⟩
  have HB6 := Lib.hid (onF HB5.out hb5)
  have k0 := keepF hb5 (keepF (newF w4 (.cells #[.int .i64 5, .int .i64 0, .int .i64 1] 50)) HK.out.1)
  have k1 := keepF hb5 (keepF (newF w4 (.cells #[.int .i64 5, .int .i64 0, .int .i64 1] 50)) HK.out.2.1)
  have k2 := keepF hb5 (keepF (newF w4 (.cells #[.int .i64 5, .int .i64 0, .int .i64 1] 50)) HK.out.2.2)
  have hg1 := HG.out.1
  have hg2 := HG.out.2
  have p0 : (0 : Int) < ((1 : Nat) : Int) := by decide
  clear hb5 HEq HK HB5
  go_wp2_with fail
  go_ret
  exact ⟨rfl, HB6.out⟩

end Go.Proofs.YtgeneoamngfomaaGreatDoor

/-
  Flows by more that is known: no program.
-/
import Derived.Test.YtjafbfepdmgjnaaGreatDoorEA
namespace Go.Proofs.YtjafbfepdmgjnaaGreatDoor
open Go.RowKit Go.Lib
set_option linter.unusedVariables false
set_option linter.unusedSimpArgs false

/-- More that is known. -/
structure Env.More (E E' : Env) (t : List Nd) : Prop where
  fx : ∀ d k r, E.fx d k = some r → E'.fx d k = some r
  ch : ∀ k d, E.ch k d ≠ 0 → E'.ch k d = E.ch k d
  fs : ∀ p, p < t.length → opA t p = 17 → ∀ f u, E'.fs (aA t p) f u = E.fs (aA t p) f u
theorem vl_more {t : List Nd} {E E' : Env} (hM : E.More E' t) {p : Nat} (h : NmA t p) {d : Int} (hv : vlA t (E.fx d) p ≠ some none) : vlA t (E'.fx d) p = vlA t (E.fx d) p :=
  vl_mono (szA t p) p (Nat.le_refl _) h (fun q _ _ _ r hr => hM.fx d _ r hr) hv
theorem ask_some {t : List Nd} {E : Env} {d : Int} {p : Nat} (h0 : (ofK t).2 = 0) (h : NmA t p) (hv : vlA t (E.fx d) p = some none) : askW t E d p ≠ [] := fun e => by
  have e2 : ∀ k ∈ kyU t p, ∃ r, E.fx d k = some r := fun k hk => by
    unfold askW at e
    rw [List.map_eq_nil_iff, List.filter_eq_nil_iff] at e
    have := e k hk
    cases hx : E.fx d k with
    | none => rw [hx] at this; exact absurd rfl this
    | some r => exact ⟨r, rfl⟩
  exact vl_all (szA t p) p (Nat.le_refl _) h (fun q h1 h2 h3 => e2 _ (kyU_in h0 h h1 h2 h3)) hv
/-- What is done by less is done by more, or is waited for. -/
theorem stp_more {t : List Nd} (h : (ofK t).2 = 0) {E E' : Env} (hE : E.Ok) (hM : E.More E' t) {tu : Int} {x : Td} (hx : CtA t x.p) {ts : List Td} {fl : List Flw} {ws : List Wat} (hs : stp t E tu x = some (ts, fl, ws)) :
    (ws = [] ∧ stp t E' tu x = some (ts, fl, [])) ∨ (ws ≠ [] ∧ ts = [] ∧ fl = []) := by
  have key : ∀ {a b c} {o : Option (List Td × List Flw × List Wat)}, (some (a, b, c) : Option (List Td × List Flw × List Wat)) = some (ts, fl, ws) → c = [] → o = some (a, b, c) → (ws = [] ∧ o = some (ts, fl, [])) ∨ (ws ≠ [] ∧ ts = [] ∧ fl = []) := fun e hc ho => by
    injection e with e; injection e with e1 e; injection e with e2 e3
    subst e1 e2 e3
    subst hc
    exact .inl ⟨rfl, ho⟩
  have wait : ∀ {a b c}, (some (a, b, c) : Option (List Td × List Flw × List Wat)) = some (ts, fl, ws) → a = [] → b = [] → c ≠ [] → ∀ {A : Prop}, A ∨ (ws ≠ [] ∧ ts = [] ∧ fl = []) := fun e ha hb hc => by
    injection e with e; injection e with e1 e; injection e with e2 e3
    subst e1 e2 e3
    exact fun {A} => .inr ⟨hc, ha, hb⟩
  by_cases c : opA t x.p = 10
  · rw [stp_one c] at hs ⊢; exact key hs rfl rfl
  by_cases c : opA t x.p = 11
  · rw [stp_give c] at hs ⊢; exact key hs rfl rfl
  by_cases c : opA t x.p = 12
  · rw [stp_and c] at hs ⊢; exact key hs rfl rfl
  by_cases c : opA t x.p = 13
  · rw [stp_scale c] at hs ⊢
    have hn := kid_nm h hx.lt (i := 0) (by rw [c]; decide) (by rw [c]; decide)
    cases hv : vlA t (E.fx x.day) (kid t x.p 0) with
    | none => rw [hv] at hs; cases hs
    | some v =>
      rw [hv] at hs
      cases v with
      | none => exact wait hs rfl rfl (ask_some h hn hv)
      | some v =>
        rw [vl_more hM hn (by rw [hv]; intro e; cases e), hv]
        dsimp only at hs ⊢
        by_cases f : fitsR (x.q * v) = true
        · rw [if_pos f] at hs ⊢; exact key hs rfl rfl
        · rw [if_neg f] at hs; cases hs
  by_cases c : opA t x.p = 14
  · rw [stp_when c] at hs ⊢; exact key hs rfl rfl
  by_cases c : opA t x.p = 15
  · rw [stp_cond c] at hs ⊢
    have hn := kid_nm h hx.lt (i := 0) (by rw [c]; decide) (by rw [c]; decide)
    have hm := kid_nm h hx.lt (i := 1) (by rw [c]; decide) (by rw [c]; decide)
    cases hv : vlA t (E.fx x.day) (kid t x.p 0) with
    | none => rw [hv] at hs; cases hs
    | some v =>
      cases hu : vlA t (E.fx x.day) (kid t x.p 1) with
      | none => rw [hv, hu] at hs; cases hs
      | some u =>
        rw [hv, hu] at hs
        cases v with
        | none =>
          cases u with
          | none => exact wait hs rfl rfl (fun e => ask_some h hn hv (List.append_eq_nil_iff.1 e).1)
          | some u => exact wait hs rfl rfl (fun e => ask_some h hn hv (List.append_eq_nil_iff.1 e).1)
        | some v =>
          cases u with
          | none => exact wait hs rfl rfl (fun e => ask_some h hm hu (List.append_eq_nil_iff.1 e).2)
          | some u =>
            rw [vl_more hM hn (by rw [hv]; intro e; cases e), hv, vl_more hM hm (by rw [hu]; intro e; cases e), hu]
            exact key hs rfl rfl
  by_cases c : opA t x.p = 16
  · rw [stp_or c] at hs ⊢
    by_cases f : E.ch (aA t x.p) x.day = 1
    · rw [if_pos f] at hs
      rw [if_pos ((hM.ch _ _ (by omega)).trans f)]; exact key hs rfl rfl
    · rw [if_neg f] at hs
      by_cases g : E.ch (aA t x.p) x.day = 2
      · rw [if_pos g] at hs
        have e := (hM.ch _ _ (by omega)).trans g
        rw [if_neg (by omega), if_pos e]; exact key hs rfl rfl
      · rw [if_neg g] at hs; exact wait hs rfl rfl (by simp)
  by_cases c : opA t x.p = 17
  · rw [stp_any c] at hs ⊢
    rw [hM.fs _ hx.lt c]
    cases hv : E.fs (aA t x.p) x.day (min (bA t x.p) tu) with
    | none => rw [hv] at hs; exact key hs rfl rfl
    | some d => rw [hv] at hs; exact key hs rfl rfl
  rw [stp_zero (by omega)] at hs ⊢
  exact key hs rfl rfl
theorem cats_more {α : Type} {f g : α → Otc} : ∀ (ts : List α), (∀ y ∈ ts, ∀ a b, f y = some (a, b) → (b = [] → g y = some (a, [])) ∧ ∀ c d, g y = some (c, d) → ∃ r, c.Perm (a ++ r)) → ∀ fl ws, cats (ts.map f) = some (fl, ws) → (ws = [] → cats (ts.map g) = some (fl, [])) ∧ ∀ c d, cats (ts.map g) = some (c, d) → ∃ r, c.Perm (fl ++ r)
  | [], _, fl, ws, h => by
    injection h with h; injection h with h1 h2
    subst h1 h2
    exact ⟨fun _ => rfl, fun c d _ => ⟨c, List.Perm.refl _⟩⟩
  | y :: ts, hq, fl, ws, h => by
    obtain ⟨a, b, c, d, e1, e2, rfl, rfl⟩ := cat_some h
    obtain ⟨h1, h2⟩ := hq y (by simp) _ _ e1
    obtain ⟨h3, h4⟩ := cats_more ts (fun z hz => hq z (by simp [hz])) _ _ e2
    refine ⟨fun e => ?_, fun c' d' e => ?_⟩
    · obtain ⟨rfl, rfl⟩ := List.append_eq_nil_iff.1 e
      rw [List.map_cons, cats, h1 rfl, h3 rfl]; rfl
    · obtain ⟨a2, b2, c2, d2, e3, e4, rfl, rfl⟩ := cat_some e
      obtain ⟨r1, p1⟩ := h2 _ _ e3
      obtain ⟨r2, p2⟩ := h4 _ _ e4
      refine ⟨r1 ++ r2, (p1.append p2).trans ?_⟩
      rw [List.append_assoc, List.append_assoc]
      refine List.Perm.append_left _ ?_
      rw [← List.append_assoc, ← List.append_assoc]
      exact List.Perm.append_right _ List.perm_append_comm
/-- What is known is not turned by more. -/
theorem dn_more {t : List Nd} (h : (ofK t).2 = 0) {E E' : Env} (hE : E.Ok) (hE' : E'.Ok) (hM : E.More E' t) {tu : Int} (hto : tu ≤ 73048) {x : Td} (hx : CtA t x.p) {fl : List Flw} {ws : List Wat} (e : dn t E tu x = some (fl, ws)) :
    (ws = [] → dn t E' tu x = some (fl, [])) ∧ ∀ c d, dn t E' tu x = some (c, d) → ∃ r, c.Perm (fl ++ r) := by
  refine dn_ind (P := fun x => ∀ fl ws, dn t E tu x = some (fl, ws) → (ws = [] → dn t E' tu x = some (fl, [])) ∧ ∀ c d, dn t E' tu x = some (c, d) → ∃ r, c.Perm (fl ++ r)) ?_ (szA t x.p) x (Nat.le_refl _) hx fl ws e
  clear e hx fl ws x
  intro x hx ih fl ws e
  by_cases hl : tu < x.day
  · rw [dn_late hl] at e
    injection e with e; injection e with e1 e2
    subst e1 e2
    exact ⟨fun _ => dn_late hl, fun c d _ => ⟨c, List.Perm.refl _⟩⟩
  obtain ⟨ts, fl0, ws0, fl1, ws1, hs, hc, rfl, rfl⟩ := dn_step h hE hto hx hl e
  have hk := stp_kids h hE hto hx hs
  obtain ⟨h1, h2⟩ := cats_more (f := dn t E tu) (g := dn t E' tu) ts (fun y hy a b e => by
    have := szs_mem (t := t) hy
    have := hk.sz
    exact ih y (hk.ct y hy) (by omega) a b e) fl1 ws1 hc
  rw [dn_eq h hE' hto hx hl]
  rcases stp_more h hE hM hx hs with ⟨rfl, e1⟩ | ⟨hw, rfl, rfl⟩
  · rw [e1]
    show (_ → cat (some (fl0, [])) (cats (ts.map (dn t E' tu))) = _) ∧ ∀ c d, cat (some (fl0, [])) (cats (ts.map (dn t E' tu))) = _ → _
    refine ⟨fun e => ?_, fun c d e => ?_⟩
    · rw [h1 (by simpa using e)]; rfl
    · obtain ⟨a2, b2, c2, d2, e3, e4, rfl, rfl⟩ := cat_some e
      injection e3 with e3; injection e3 with e3 _
      subst e3
      obtain ⟨r, p⟩ := h2 _ _ e4
      exact ⟨r, by rw [List.append_assoc]; exact List.Perm.append_left _ p⟩
  · refine ⟨fun e => absurd (List.append_eq_nil_iff.1 e).1 hw, fun c d _ => ?_⟩
    injection hc with hc; injection hc with hc _
    subst hc
    exact ⟨c, List.Perm.refl _⟩

end Go.Proofs.YtjafbfepdmgjnaaGreatDoor

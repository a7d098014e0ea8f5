/-
  chattellaw09.DenoteKnown: more choices are told; what is more is there in order (no program).
-/
import Derived.Test.YtjafbfepdmgjnaaGreatDoorEoA
import Derived.Test.YtjafbfepdmgjnaaGreatDoorVlI
import Derived.Test.YtjafbfepdmgjnaaGreatDoorEnDm
namespace Go.Proofs.YtjafbfepdmgjnaaGreatDoor
open Go.RowKit Go.Lib Go.Shelf Go.Maps
set_option linter.unusedVariables false
set_option linter.unusedSimpArgs false

theorem srt_extE : ∀ {a b : List Fct}, Srt a → Srt b → (∀ t, t ∈ a ↔ t ∈ b) → a = b
  | [], [], _, _, _ => rfl
  | [], y :: b, _, _, h => by have := (h y).2 (by simp); cases this
  | x :: a, [], _, _, h => by have := (h x).1 (by simp); cases this
  | x :: a, y :: b, ha, hb, h => by
    have ha' := List.pairwise_cons.1 ha
    have hb' := List.pairwise_cons.1 hb
    have irr : ∀ z : Fct, ¬ befT z z := fun z hz => by unfold befT at hz; omega
    have asy : ∀ z u : Fct, befT z u → ¬ befT u z := fun z u h1 h2 => by unfold befT at h1 h2; omega
    have e : x = y := by
      rcases List.mem_cons.1 ((h x).1 (by simp)) with e | e
      · exact e
      · rcases List.mem_cons.1 ((h y).2 (by simp)) with f | f
        · exact f.symm
        · exact absurd (hb'.1 x e) (asy _ _ (ha'.1 y f))
    subst e
    rw [srt_extE ha'.2 hb'.2 (fun t => ?_)]
    constructor
    · intro ht
      rcases List.mem_cons.1 ((h t).1 (by simp [ht])) with e | e
      · subst e; exact absurd (ha'.1 t ht) (irr t)
      · exact e
    · intro ht
      rcases List.mem_cons.1 ((h t).2 (by simp [ht])) with e | e
      · subst e; exact absurd (hb'.1 t ht) (irr t)
      · exact e
theorem find_put {l : List Fct} {x : Fct} {q : Fct → Bool} (hs : Srt l) (hn : ∀ t ∈ l, ¬ (t.k = x.k ∧ t.d = x.d)) (hq : q x = false) : (putL l x).find? q = l.find? q := by
  rw [← List.head?_filter, ← List.head?_filter]
  congr 1
  refine srt_extE (List.Pairwise.filter _ (srt_put x hs)) (List.Pairwise.filter _ hs) fun t => ?_
  rw [List.mem_filter, List.mem_filter, mem_put, neB_iff]
  constructor
  · rintro ⟨rfl | ⟨h1, _⟩, h2⟩
    · rw [hq] at h2; cases h2
    · exact ⟨h1, h2⟩
  · exact fun ⟨h1, h2⟩ => ⟨.inr ⟨h1, hn t h1⟩, h2⟩
/-- One more choice is told. -/
def stC (a : List Fct) (t : Tol) : List Fct := if t.c = true then (if tolE t = 0 then putL a ⟨t.k, t.d, 0, 0, t.p⟩ else a) else a
theorem rel_stC {D : DataW Unit} {l : List Fct} (h : RelV vI D l) (t : Tol) (ht : t.Ok) : RelV vI (tolC t D) (stC l t) := by
  unfold tolC stC
  split
  · split
    · exact h.put ⟨t.k, t.d, 0, 0, t.p⟩ ht.1 ht.2.1
    · exact h
  · exact h
theorem pick_stC {l : List Fct} (h : ∀ x ∈ l, x.p = 1 ∨ x.p = 2) (t : Tol) : ∀ x ∈ stC l t, x.p = 1 ∨ x.p = 2 := by
  unfold stC
  by_cases hc : t.c = true
  · rw [if_pos hc]
    by_cases he : tolE t = 0
    · rw [if_pos he]
      intro x hx
      rcases mem_put.1 hx with rfl | ⟨hx, _⟩
      · unfold tolE at he
        rw [if_pos hc] at he
        unfold choE at he
        by_cases hp : t.p < 1 ∨ 2 < t.p
        · rw [if_pos hp] at he; omega
        · show t.p = 1 ∨ t.p = 2
          omega
      · exact h x hx
    · rw [if_neg he]; exact h
  · rw [if_neg hc]; exact h
theorem Env.More.refl (E : Env) (t : List Nd) : E.More E t := ⟨fun _ _ _ h => h, fun _ _ _ => rfl, fun _ _ _ _ _ => rfl⟩
theorem Env.More.trans {E F G : Env} {t : List Nd} (h : E.More F t) (h' : F.More G t) : E.More G t :=
  ⟨fun d k r hr => h'.fx d k r (h.fx d k r hr), fun k d hk => (h'.ch k d (by rw [h.ch k d hk]; exact hk)).trans (h.ch k d hk), fun p hp ho f u => (h'.fs p hp ho f u).trans (h.fs p hp ho f u)⟩
theorem env_stF {t : List Nd} {lf lc : List Fct} (hs : Srt lf) (x : Tol) (h : x.c = false → (gtL lf x.k x.d).2.2 = false) : (envL lf lc).More (envL (stF lf x) lc) t := by
  refine ⟨fun d k r hr => ?_, fun _ _ _ => rfl, fun _ _ _ _ _ => rfl⟩
  show fxL (stF lf x) d k = some r
  have hr' : fxL lf d k = some r := hr
  by_cases hc : x.c = true
  · have e : stF lf x = lf := by unfold stF; rw [if_pos hc]
    rw [e]; exact hr'
  · have hm := stF_more hs x (h (by simpa using hc))
    unfold fxL at hr' ⊢
    by_cases g : (gtL lf k d).2.2 = true
    · rw [hm k d g]; exact hr'
    · rw [if_neg g] at hr'; cases hr'
theorem env_stC {t : List Nd} {lf lc : List Fct} (hs : Srt lc) (x : Tol) (h : x.c = true → lc.find? (isG x.k x.d) = none) (ha : x.c = true → ∀ p, p < t.length → opA t p = 17 → aA t p ≠ x.k) : (envL lf lc).More (envL lf (stC lc x)) t := by
  unfold stC
  by_cases hc : x.c = true
  · rw [if_pos hc]
    by_cases he : tolE x = 0
    · rw [if_pos he]
      have hn : ∀ t ∈ lc, ¬ (t.k = x.k ∧ t.d = x.d) := fun t ht e => List.find?_eq_none.1 (h hc) t ht (isG_iff.2 e)
      refine ⟨fun _ _ _ hr => hr, fun k d hk => ?_, fun p hp ho f u => ?_⟩
      · show (match (putL lc ⟨x.k, x.d, 0, 0, x.p⟩).find? (isG k d) with | some t => t.p | none => 0) = (match lc.find? (isG k d) with | some t => t.p | none => 0)
        have hk' : (match lc.find? (isG k d) with | some t => t.p | none => 0) ≠ 0 := hk
        rw [find_put hs hn]
        rw [Bool.eq_false_iff]
        intro e
        obtain ⟨e1, e2⟩ := isG_iff.1 e
        dsimp only at e1 e2
        rw [← e1, ← e2, h hc] at hk'
        exact hk' rfl
      · show ((putL lc ⟨x.k, x.d, 0, 0, x.p⟩).find? (isH (aA t p) f u 1)).map _ = (lc.find? (isH (aA t p) f u 1)).map _
        rw [find_put hs hn]
        rw [Bool.eq_false_iff]
        intro e
        exact ha hc p hp ho (isH_iff.1 e).1.symm
    · rw [if_neg he]; exact Env.More.refl _ _
  · rw [if_neg hc]; exact Env.More.refl _ _

/-- A row that another one holds, both in order, stands in it in order. -/
theorem flw_sub : ∀ {b a r : List Flw}, SrF a → SrF b → b.Perm (a ++ r) → a.Sublist b
  | b, [], r, _, _, _ => List.nil_sublist b
  | [], x :: a, r, _, _, h => by have := h.length_eq; simp at this
  | y :: b, x :: a, r, ha, hb, h => by
    have ha' := List.pairwise_cons.1 ha
    have hb' := List.pairwise_cons.1 hb
    by_cases e : x = y
    · subst e
      have h' : b.Perm (a ++ r) := by simpa using h
      exact (flw_sub ha'.2 hb'.2 h').cons_cons x
    · have hx : x ∈ b := by
        have := h.mem_iff.2 (show x ∈ (x :: a) ++ r by simp)
        rcases List.mem_cons.1 this with f | f
        · exact absurd f e
        · exact f
      have hny : y ∉ x :: a := by
        intro hy
        rcases List.mem_cons.1 hy with f | f
        · exact e f.symm
        · rcases bfF_tri x y with g | g | g
          · exact hb'.1 x hx g
          · exact e g
          · exact ha'.1 y f g
      have hyr : y ∈ r := by
        have := h.mem_iff.1 (show y ∈ y :: b by simp)
        rcases List.mem_append.1 this with f | f
        · exact absurd f hny
        · exact f
      obtain ⟨r1, r2, rfl⟩ := List.append_of_mem hyr
      have h' : b.Perm ((x :: a) ++ (r1 ++ r2)) := by
        have h1 : ((x :: a) ++ (r1 ++ y :: r2)).Perm (y :: ((x :: a) ++ (r1 ++ r2))) := by
          rw [← List.append_assoc, ← List.append_assoc]
          exact List.perm_middle
        exact List.Perm.cons_inv (h.trans h1)
      exact (flw_sub ha hb'.2 h').cons y
theorem drop_flw {L : List Flw} {i : Nat} (h : i < L.length) : L.drop i = L.getD i default :: L.drop (i + 1) := by
  rw [List.drop_eq_getElem_cons h, List.getD_eq_getElem?_getD, List.getElem?_eq_getElem h]; rfl
/-- One round of the walk that finds one row in another. -/
theorem greedy {a b : List Flw} {k i : Nat} (h : (a.drop k).Sublist (b.drop i)) (hk : k < a.length) (hi : i < b.length) :
    (b.getD i default = a.getD k default → (a.drop (k + 1)).Sublist (b.drop (i + 1))) ∧ (b.getD i default ≠ a.getD k default → (a.drop k).Sublist (b.drop (i + 1))) := by
  rw [drop_flw hk, drop_flw hi] at h
  refine ⟨fun e => ?_, fun e => ?_⟩
  · have := h.tail
    simpa using this
  · rw [drop_flw hk]
    generalize a.getD k default = y at *
    generalize b.getD i default = z at *
    generalize a.drop (k + 1) = aS at *
    generalize b.drop (i + 1) = bS at *
    cases h with
    | cons _ h => exact h
    | cons_cons _ h => exact absurd rfl e
theorem greedy_end {a b : List Flw} {k i : Nat} (h : (a.drop k).Sublist (b.drop i)) (hk : k ≤ a.length) (hi : ¬ i < b.length) : k = a.length := by
  rw [List.drop_eq_nil_of_le (show b.length ≤ i by omega)] at h
  have := List.sublist_nil.1 h
  have := List.drop_eq_nil_iff.1 this
  omega
theorem kn_er {t : List Nd} {lf lc lf' lc' : List Fct} (hof : OkL lf) (hoc : ∀ x ∈ lc, x.p = 1 ∨ x.p = 2) (hof' : OkL lf') (hoc' : ∀ x ∈ lc', x.p = 1 ∨ x.p = 2) (hM : (envL lf lc).More (envL lf' lc') t) {fr tu : Int} (h : erD t lf lc fr tu = 0) :
    ((reD t lf lc fr tu).2 = [] → erD t lf' lc' fr tu = 0 ∧ (reD t lf' lc' fr tu).1 = (reD t lf lc fr tu).1) ∧ (erD t lf' lc' fr tu = 0 ∨ erD t lf' lc' fr tu = 11) ∧ (erD t lf' lc' fr tu = 0 → ∃ r, (reD t lf' lc' fr tu).1.Perm ((reD t lf lc fr tu).1 ++ r)) := by
  obtain ⟨k1, k2, k3⟩ := erD_zero h
  obtain ⟨g1, g2⟩ := ct0_of k1
  have htu : tu ≤ 73048 := by unfold badD at k2; omega
  obtain ⟨m1, m2⟩ := dn_more g1 (env_okL hof hoc) (env_okL hof' hoc') hM htu (x := ⟨0, fr, 1⟩) g2 (fl := (reD t lf lc fr tu).1) (ws := (reD t lf lc fr tu).2) k3
  generalize reD t lf lc fr tu = R at *
  have hE : erD t lf' lc' fr tu = if dn t (envL lf' lc') tu ⟨0, fr, 1⟩ = none then 11 else 0 := by
    unfold erD
    rw [if_neg (by omega), if_neg k2]
  cases hd : dn t (envL lf' lc') tu ⟨0, fr, 1⟩ with
  | none =>
    rw [hd, if_pos rfl] at hE
    refine ⟨fun e => ?_, .inr hE, fun e => ?_⟩
    · have := m1 e
      rw [hd] at this; cases this
    · rw [hE] at e; cases e
  | some s =>
    rw [hd, if_neg (by simp)] at hE
    have hR : reD t lf' lc' fr tu = s := by unfold reD; rw [hd]; rfl
    rw [hR]
    refine ⟨fun e => ⟨hE, ?_⟩, .inl hE, fun _ => m2 s.1 s.2 hd⟩
    have := m1 e
    rw [hd] at this
    injection this with this
    rw [this]

end Go.Proofs.YtjafbfepdmgjnaaGreatDoor

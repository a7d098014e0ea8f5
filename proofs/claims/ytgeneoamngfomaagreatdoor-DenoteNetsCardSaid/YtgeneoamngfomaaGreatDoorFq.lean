/-
  Facts as the document's answer has them: lists, put in order: no program but the maps' readings.
-/
import Derived.Test.YtgeneoamngfomaaGreatDoorFcH
import Derived.Deep.CutRange
import Derived.Test.YtgeneoamngfomaaGreatDoorRefOR
namespace Go.Proofs.YtgeneoamngfomaaGreatDoor
open Go.RowKit Go.Lib Go.Maps
set_option linter.unusedVariables false
set_option linter.unusedSimpArgs false

def cB (x y : Fct) : Bool := decide (x.k < y.k) || (decide (y.k = x.k) && decide (x.d ≤ y.d))
def neB (x y : Fct) : Bool := !(decide (y.k = x.k) && decide (y.d = x.d))
def stP (x : Fct) (s : List Fct × Bool) (y : Fct) : List Fct × Bool := (s.1 ++ (if (!s.2 && cB x y) = true then [x] else []) ++ (if neB x y = true then [y] else []), s.2 || cB x y)
def runP (x : Fct) (l : List Fct) : List Fct × Bool := l.foldl (stP x) ([], false)
/-- A list with one more, in place of another one of its key and day. -/
def putL (l : List Fct) (x : Fct) : List Fct := if (runP x l).2 = true then (runP x l).1 else (runP x l).1 ++ [x]
theorem neB_iff {x y : Fct} : neB x y = true ↔ ¬ (y.k = x.k ∧ y.d = x.d) := by
  unfold neB
  by_cases h1 : y.k = x.k <;> by_cases h2 : y.d = x.d <;> simp [h1, h2]
theorem cB_iff {x y : Fct} : cB x y = true ↔ (x.k < y.k ∨ (y.k = x.k ∧ x.d ≤ y.d)) := by
  unfold cB
  simp
theorem mem_fold (x : Fct) : ∀ (l : List Fct) (s : List Fct × Bool) (t : Fct), t ∈ (l.foldl (stP x) s).1 ↔ t ∈ s.1 ∨ (s.2 = false ∧ (l.foldl (stP x) s).2 = true ∧ t = x) ∨ (t ∈ l ∧ neB x t = true)
  | [], s, t => by
    simp only [List.foldl_nil, List.not_mem_nil, false_and, or_false]
    constructor
    · exact fun h => .inl h
    · rintro (h | ⟨h1, h2, _⟩)
      · exact h
      · rw [h1] at h2; cases h2
  | y :: r, s, t => by
    rw [List.foldl_cons, mem_fold x r (stP x s y) t]
    have hmono : ∀ (l : List Fct) (s : List Fct × Bool), s.2 = true → (l.foldl (stP x) s).2 = true := by
      intro l
      induction l with
      | nil => exact fun s h => h
      | cons z q ih => exact fun s h => by rw [List.foldl_cons]; exact ih _ (by show (s.2 || cB x z) = true; rw [h]; rfl)
    have e1 : t ∈ (stP x s y).1 ↔ t ∈ s.1 ∨ ((!s.2 && cB x y) = true ∧ t = x) ∨ (neB x y = true ∧ t = y) := by
      unfold stP
      dsimp only
      rw [List.mem_append, List.mem_append]
      by_cases c1 : (!s.2 && cB x y) = true <;> by_cases c2 : neB x y = true <;> simp [c1, c2, or_assoc]
    have e2 : (stP x s y).2 = (s.2 || cB x y) := rfl
    rw [e1, e2, List.mem_cons]
    constructor
    · rintro ((h | ⟨h, rfl⟩ | ⟨h, rfl⟩) | ⟨h1, h2, h3⟩ | ⟨h1, h2⟩)
      · exact .inl h
      · rw [Bool.and_eq_true] at h
        refine .inr (.inl ⟨by simpa using h.1, hmono r _ ?_, rfl⟩)
        rw [e2, h.2, Bool.or_true]
      · exact .inr (.inr ⟨.inl rfl, h⟩)
      · rw [Bool.or_eq_false_iff] at h1
        exact .inr (.inl ⟨h1.1, h2, h3⟩)
      · exact .inr (.inr ⟨.inr h1, h2⟩)
    · rintro (h | ⟨h1, h2, rfl⟩ | ⟨rfl | h1, h2⟩)
      · exact .inl (.inl h)
      · cases hc : cB t y with
        | true => exact .inl (.inr (.inl ⟨by rw [h1]; rfl, rfl⟩))
        | false => exact .inr (.inl ⟨by rw [h1]; rfl, h2, rfl⟩)
      · exact .inl (.inr (.inr ⟨h2, rfl⟩))
      · exact .inr (.inr ⟨h1, h2⟩)
theorem mem_put {l : List Fct} {x t : Fct} : t ∈ putL l x ↔ t = x ∨ (t ∈ l ∧ neB x t = true) := by
  have := mem_fold x l ([], false) t
  unfold putL runP
  by_cases c : (l.foldl (stP x) ([], false)).2 = true
  · rw [if_pos c, this]
    simp [c]
  · rw [if_neg c, List.mem_append, this, List.mem_singleton]
    have c' : (l.foldl (stP x) ([], false)).2 = false := by simpa using c
    simp [c']
    exact Or.comm
/-- Before another one. -/
def befT (a b : Fct) : Prop := a.k < b.k ∨ (a.k = b.k ∧ a.d < b.d)
def Srt (l : List Fct) : Prop := l.Pairwise befT
theorem srt_fold (x : Fct) : ∀ (l : List Fct) (s : List Fct × Bool), Srt l → Srt s.1 → (∀ a ∈ s.1, ∀ b ∈ l, neB x b = true → befT a b) → (s.2 = false → ∀ a ∈ s.1, befT a x) → (s.2 = true → ∀ b ∈ l, neB x b = true → befT x b) →
    Srt (l.foldl (stP x) s).1 ∧ ((l.foldl (stP x) s).2 = false → ∀ a ∈ (l.foldl (stP x) s).1, befT a x)
  | [], s, _, h2, _, h4, _ => ⟨h2, h4⟩
  | y :: r, s, h1, h2, h3, h4, h5 => by
    rw [List.foldl_cons]
    have h1' := List.pairwise_cons.1 h1
    have hy : ∀ a ∈ s.1, neB x y = true → befT a y := fun a ha hn => h3 a ha y (by simp) hn
    have hxy : cB x y = true → neB x y = true → befT x y := fun hc hn => by
      rw [cB_iff] at hc
      rw [neB_iff] at hn
      unfold befT
      omega
    have hxr : cB x y = true → ∀ b ∈ r, befT x b := fun hc b hb => by
      have := h1'.1 b hb
      rw [cB_iff] at hc
      unfold befT at this ⊢
      omega
    have hyx : cB x y = false → befT y x ∧ neB x y = true := fun hc => by
      have : ¬ (x.k < y.k ∨ (y.k = x.k ∧ x.d ≤ y.d)) := fun h => by rw [← cB_iff, hc] at h; cases h
      rw [neB_iff]
      unfold befT
      omega
    refine srt_fold x r (stP x s y) h1'.2 ?_ ?_ ?_ ?_
    · show Srt (s.1 ++ (if (!s.2 && cB x y) = true then [x] else []) ++ (if neB x y = true then [y] else []))
      unfold Srt
      rw [List.pairwise_append, List.pairwise_append]
      refine ⟨⟨h2, by split <;> simp, fun a ha b hb => ?_⟩, by split <;> simp, fun a ha b hb => ?_⟩
      · split at hb
        · rename_i hc
          rw [Bool.and_eq_true] at hc
          rw [List.mem_singleton.1 hb]
          exact h4 (by simpa using hc.1) a ha
        · cases hb
      · split at hb
        · rename_i hn
          rw [List.mem_singleton.1 hb]
          rcases List.mem_append.1 ha with ha | ha
          · exact hy a ha hn
          · split at ha
            · rename_i hc
              rw [Bool.and_eq_true] at hc
              rw [List.mem_singleton.1 ha]
              exact hxy hc.2 hn
            · cases ha
        · cases hb
    · intro a ha b hb hn
      have ha' : a ∈ s.1 ++ (if (!s.2 && cB x y) = true then [x] else []) ++ (if neB x y = true then [y] else []) := ha
      rcases List.mem_append.1 ha' with ha' | ha'
      · rcases List.mem_append.1 ha' with ha' | ha'
        · exact h3 a ha' b (by simp [hb]) hn
        · split at ha'
          · rename_i hc
            rw [Bool.and_eq_true] at hc
            rw [List.mem_singleton.1 ha']
            exact hxr hc.2 b hb
          · cases ha'
      · split at ha'
        · rw [List.mem_singleton.1 ha']; exact h1'.1 b hb
        · cases ha'
    · intro hs a ha
      have hs' : (s.2 || cB x y) = false := hs
      rw [Bool.or_eq_false_iff] at hs'
      have ha' : a ∈ s.1 ++ (if (!s.2 && cB x y) = true then [x] else []) ++ (if neB x y = true then [y] else []) := ha
      rw [hs'.1, hs'.2] at ha'
      rcases List.mem_append.1 ha' with ha' | ha'
      · rcases List.mem_append.1 ha' with ha' | ha'
        · exact h4 hs'.1 a ha'
        · simp at ha'
      · split at ha'
        · rw [List.mem_singleton.1 ha']; exact (hyx hs'.2).1
        · cases ha'
    · intro hs b hb hn
      have hs' : (s.2 || cB x y) = true := hs
      rw [Bool.or_eq_true] at hs'
      rcases hs' with hs' | hs'
      · exact h5 hs' b (by simp [hb]) hn
      · exact hxr hs' b hb
theorem srt_put {l : List Fct} (x : Fct) (h : Srt l) : Srt (putL l x) := by
  have := srt_fold x l ([], false) h List.Pairwise.nil (fun a ha => by cases ha) (fun _ a ha => by cases ha) (fun e => by cases e)
  unfold putL runP
  by_cases c : (l.foldl (stP x) ([], false)).2 = true
  · rw [if_pos c]; exact this.1
  · rw [if_neg c]
    unfold Srt
    rw [List.pairwise_append]
    refine ⟨this.1, by simp, fun a ha b hb => ?_⟩
    rw [List.mem_singleton.1 hb]
    exact this.2 (by simpa using c) a ha

/-- A map as the list says it: V: what a fact's element reads as. -/
structure RelV (V : Fct → DataW Unit) (D : DataW Unit) (l : List Fct) : Prop where
  im : IsMap D
  srt : Srt l
  ok : ∀ t ∈ l, I64 t.k ∧ I64 t.d
  val : ∀ t ∈ l, Maps.has D (plk t.k t.d) = true ∧ ∀ zd, D.atKey (plk t.k t.d) zd = V t
  all : ∀ k d, I64 k → I64 d → Maps.has D (plk k d) = true → ∃ t ∈ l, t.k = k ∧ t.d = d
theorem RelV.start (V : Fct → DataW Unit) : RelV V (.map []) [] := ⟨isMap_empty, List.Pairwise.nil, fun t h => (by cases h), fun t h => (by cases h), fun k d _ _ h => (by cases h)⟩
theorem RelV.put {V : Fct → DataW Unit} {D : DataW Unit} {l : List Fct} (h : RelV V D l) (x : Fct) (hk : I64 x.k) (hd : I64 x.d) : RelV V (D.put (plk x.k x.d) (V x)) (putL l x) := by
  refine ⟨h.im.put _ _, srt_put x h.srt, fun t ht => ?_, fun t ht => ?_, fun k d hk' hd' hh => ?_⟩
  · rcases mem_put.1 ht with rfl | ⟨ht, _⟩
    · exact ⟨hk, hd⟩
    · exact h.ok t ht
  · rcases mem_put.1 ht with rfl | ⟨ht, hn⟩
    · exact ⟨has_put_same h.im (plk_ok hk hd) _, fun zd => atKey_put_same h.im (plk_ok hk hd) _ zd⟩
    · obtain ⟨a1, a2⟩ := h.ok t ht
      have hne := plk_ne a1 a2 hk hd (neB_iff.1 hn)
      obtain ⟨b1, b2⟩ := h.val t ht
      exact ⟨(has_put_other hne _).trans b1, fun zd => (atKey_put_other hne _ zd).trans (b2 zd)⟩
  · by_cases e : k = x.k ∧ d = x.d
    · exact ⟨x, mem_put.2 (.inl rfl), e.1.symm, e.2.symm⟩
    · rw [has_put_other (plk_ne hk' hd' hk hd e)] at hh
      obtain ⟨t, ht, rfl, rfl⟩ := h.all k d hk' hd' hh
      exact ⟨t, mem_put.2 (.inr ⟨ht, neB_iff.2 e⟩), rfl, rfl⟩
theorem runP_len (x : Fct) : ∀ (l : List Fct) (s : List Fct × Bool), (l.foldl (stP x) s).1.length + (if (l.foldl (stP x) s).2 = true then 0 else 1) ≤ s.1.length + l.length + (if s.2 = true then 0 else 1)
  | [], s => Nat.le_refl _
  | y :: r, s => by
    rw [List.foldl_cons]
    have ih := runP_len x r (stP x s y)
    have e : (stP x s y).1.length + (if (stP x s y).2 = true then 0 else 1) ≤ s.1.length + 1 + (if s.2 = true then 0 else 1) := by
      unfold stP
      dsimp only
      rw [List.length_append, List.length_append]
      cases hs : s.2 <;> cases hc : cB x y <;> cases hn : neB x y <;> simp [hs, hc, hn] <;> omega
    rw [List.length_cons]
    omega
theorem putL_len (l : List Fct) (x : Fct) : (putL l x).length ≤ l.length + 1 := by
  have := runP_len x l ([], false)
  unfold putL runP
  by_cases c : (l.foldl (stP x) ([], false)).2 = true
  · rw [if_pos c]
    rw [if_pos c] at this
    simpa using this
  · rw [if_neg c, List.length_append]
    rw [if_neg c] at this
    simpa using this
/-- What is known, as lists. -/
def plF (L : List Tol) : List Fct := L.foldl (fun a t => if t.c = true then a else if tolE t = 0 then putL a ⟨t.k, t.d, t.x, t.y, 0⟩ else a) []
def plC (L : List Tol) : List Fct := L.foldl (fun a t => if t.c = true then (if tolE t = 0 then putL a ⟨t.k, t.d, 0, 0, t.p⟩ else a) else a) []
theorem plF_snoc (L : List Tol) (t : Tol) : plF (L ++ [t]) = if t.c = true then plF L else if tolE t = 0 then putL (plF L) ⟨t.k, t.d, t.x, t.y, 0⟩ else plF L := by unfold plF; rw [List.foldl_append]; rfl
theorem plC_snoc (L : List Tol) (t : Tol) : plC (L ++ [t]) = if t.c = true then (if tolE t = 0 then putL (plC L) ⟨t.k, t.d, 0, 0, t.p⟩ else plC L) else plC L := by unfold plC; rw [List.foldl_append]; rfl
abbrev vR (t : Fct) : DataW Unit := ratD t.x t.y
abbrev vI (t : Fct) : DataW Unit := intD t.p
theorem rel_made (L : List Tol) : ∀ n, n ≤ L.length → (∀ j, j < L.length → (L.getD j default).Ok) → RelV vR (mkF (L.take n)) (plF (L.take n)) ∧ RelV vI (mkC (L.take n)) (plC (L.take n)) ∧ (plF (L.take n)).length ≤ n ∧ (plC (L.take n)).length ≤ n
  | 0, _, _ => ⟨RelV.start _, RelV.start _, Nat.le_refl _, Nat.le_refl _⟩
  | n + 1, hn, hok => by
    obtain ⟨h1, h2, h3, h4⟩ := rel_made L n (by omega) hok
    have ht := hok n (by omega)
    rw [take_getD (by omega), mkF_snoc, mkC_snoc, plF_snoc, plC_snoc]
    generalize L.getD n default = t at *
    unfold tolF tolC
    have p1 := putL_len (plF (L.take n)) ⟨t.k, t.d, t.x, t.y, 0⟩
    have p2 := putL_len (plC (L.take n)) ⟨t.k, t.d, 0, 0, t.p⟩
    by_cases c : t.c = true
    · rw [if_pos c, if_pos c, if_pos c, if_pos c]
      by_cases e : tolE t = 0
      · rw [if_pos e, if_pos e]
        exact ⟨h1, h2.put ⟨t.k, t.d, 0, 0, t.p⟩ ht.1 ht.2.1, by omega, by omega⟩
      · rw [if_neg e, if_neg e]
        exact ⟨h1, h2, by omega, by omega⟩
    · rw [if_neg c, if_neg c, if_neg c, if_neg c]
      by_cases e : tolE t = 0
      · rw [if_pos e, if_pos e]
        exact ⟨h1.put ⟨t.k, t.d, t.x, t.y, 0⟩ ht.1 ht.2.1, h2, by omega, by omega⟩
      · rw [if_neg e, if_neg e]
        exact ⟨h1, h2, by omega, by omega⟩

end Go.Proofs.YtgeneoamngfomaaGreatDoor

namespace Go.Proofs.YtgeneoamngfomaaGreatDoor
open Go.RowKit Go.Lib
set_option linter.unusedVariables false
set_option linter.unusedSimpArgs false

end Go.Proofs.YtgeneoamngfomaaGreatDoor

namespace Go.Proofs.YtgeneoamngfomaaGreatDoor
open Go.RowKit Go.Lib
set_option linter.unusedVariables false
set_option linter.unusedSimpArgs false

end Go.Proofs.YtgeneoamngfomaaGreatDoor

namespace Go.Proofs.YtgeneoamngfomaaGreatDoor
open Go.RowKit Go.Lib
set_option linter.unusedVariables false
set_option linter.unusedSimpArgs false

def isG (k d : Int) (t : Fct) : Bool := decide (t.k = k) && decide (t.d = d)
def isH (k f u p : Int) (t : Fct) : Bool := decide (t.k = k) && decide (f ≤ t.d) && decide (t.d ≤ u) && decide (t.p = p)
end Go.Proofs.YtgeneoamngfomaaGreatDoor

/-
  Facts as the document's answer has them: lists, put in order: no program but the maps' readings.
-/
import Derived.Test.YtjafbfepdmgjnaaGreatDoorFcH
import Derived.Deep.CutRange
import Derived.Test.YtjafbfepdmgjnaaGreatDoorRefOR
namespace Go.Proofs.YtjafbfepdmgjnaaGreatDoor
open Go.RowKit Go.Lib Go.Maps
set_option linter.unusedVariables false
set_option linter.unusedSimpArgs false

def cB (x y : Fct) : Bool := decide (x.k < y.k) || (decide (y.k = x.k) && decide (x.d ≤ y.d))
def neB (x y : Fct) : Bool := !(decide (y.k = x.k) && decide (y.d = x.d))
def stP (x : Fct) (s : List Fct × Bool) (y : Fct) : List Fct × Bool := (s.1 ++ (if (!s.2 && cB x y) = true then [x] else []) ++ (if neB x y = true then [y] else []), s.2 || cB x y)
def runP (x : Fct) (l : List Fct) : List Fct × Bool := l.foldl (stP x) ([], false)
/-- A list with one more, in place of another one of its key and day. -/
def putL (l : List Fct) (x : Fct) : List Fct := if (runP x l).2 = true then (runP x l).1 else (runP x l).1 ++ [x]
theorem runP_snoc (x : Fct) (l : List Fct) (y : Fct) : runP x (l ++ [y]) = stP x (runP x l) y := by unfold runP; rw [List.foldl_append]; rfl
theorem neB_iff {x y : Fct} : neB x y = true ↔ ¬ (y.k = x.k ∧ y.d = x.d) := by
  unfold neB
  by_cases h1 : y.k = x.k <;> by_cases h2 : y.d = x.d <;> simp [h1, h2]
theorem cB_iff {x y : Fct} : cB x y = true ↔ (x.k < y.k ∨ (y.k = x.k ∧ x.d ≤ y.d)) := by
  unfold cB
  simp
theorem mem_fold (x : Fct) : ∀ (l : List Fct) (s : List Fct × Bool) (t : Fct), t ∈ (l.foldl (stP x) s).1 ↔ t ∈ s.1 ∨ (s.2 = false ∧ (l.foldl (stP x) s).2 = true ∧ t = x) ∨ (t ∈ l ∧ neB x t = true)
  | [], s, t => by
    simp only [List.foldl_nil, List.not_mem_nil, false_and, or_false]
    constructor
    · exact fun h => .inl h
    · rintro (h | ⟨h1, h2, _⟩)
      · exact h
      · rw [h1] at h2; cases h2
  | y :: r, s, t => by
    rw [List.foldl_cons, mem_fold x r (stP x s y) t]
    have hmono : ∀ (l : List Fct) (s : List Fct × Bool), s.2 = true → (l.foldl (stP x) s).2 = true := by
      intro l
      induction l with
      | nil => exact fun s h => h
      | cons z q ih => exact fun s h => by rw [List.foldl_cons]; exact ih _ (by show (s.2 || cB x z) = true; rw [h]; rfl)
    have e1 : t ∈ (stP x s y).1 ↔ t ∈ s.1 ∨ ((!s.2 && cB x y) = true ∧ t = x) ∨ (neB x y = true ∧ t = y) := by
      unfold stP
      dsimp only
      rw [List.mem_append, List.mem_append]
      by_cases c1 : (!s.2 && cB x y) = true <;> by_cases c2 : neB x y = true <;> simp [c1, c2, or_assoc]
    have e2 : (stP x s y).2 = (s.2 || cB x y) := rfl
    rw [e1, e2, List.mem_cons]
    constructor
    · rintro ((h | ⟨h, rfl⟩ | ⟨h, rfl⟩) | ⟨h1, h2, h3⟩ | ⟨h1, h2⟩)
      · exact .inl h
      · rw [Bool.and_eq_true] at h
        refine .inr (.inl ⟨by simpa using h.1, hmono r _ ?_, rfl⟩)
        rw [e2, h.2, Bool.or_true]
      · exact .inr (.inr ⟨.inl rfl, h⟩)
      · rw [Bool.or_eq_false_iff] at h1
        exact .inr (.inl ⟨h1.1, h2, h3⟩)
      · exact .inr (.inr ⟨.inr h1, h2⟩)
    · rintro (h | ⟨h1, h2, rfl⟩ | ⟨rfl | h1, h2⟩)
      · exact .inl (.inl h)
      · cases hc : cB t y with
        | true => exact .inl (.inr (.inl ⟨by rw [h1]; rfl, rfl⟩))
        | false => exact .inr (.inl ⟨by rw [h1]; rfl, h2, rfl⟩)
      · exact .inl (.inr (.inr ⟨h2, rfl⟩))
      · exact .inr (.inr ⟨h1, h2⟩)
theorem mem_put {l : List Fct} {x t : Fct} : t ∈ putL l x ↔ t = x ∨ (t ∈ l ∧ neB x t = true) := by
  have := mem_fold x l ([], false) t
  unfold putL runP
  by_cases c : (l.foldl (stP x) ([], false)).2 = true
  · rw [if_pos c, this]
    simp [c]
  · rw [if_neg c, List.mem_append, this, List.mem_singleton]
    have c' : (l.foldl (stP x) ([], false)).2 = false := by simpa using c
    simp [c']
    exact Or.comm
/-- Before another one. -/
def befT (a b : Fct) : Prop := a.k < b.k ∨ (a.k = b.k ∧ a.d < b.d)
def Srt (l : List Fct) : Prop := l.Pairwise befT
theorem srt_fold (x : Fct) : ∀ (l : List Fct) (s : List Fct × Bool), Srt l → Srt s.1 → (∀ a ∈ s.1, ∀ b ∈ l, neB x b = true → befT a b) → (s.2 = false → ∀ a ∈ s.1, befT a x) → (s.2 = true → ∀ b ∈ l, neB x b = true → befT x b) →
    Srt (l.foldl (stP x) s).1 ∧ ((l.foldl (stP x) s).2 = false → ∀ a ∈ (l.foldl (stP x) s).1, befT a x)
  | [], s, _, h2, _, h4, _ => ⟨h2, h4⟩
  | y :: r, s, h1, h2, h3, h4, h5 => by
    rw [List.foldl_cons]
    have h1' := List.pairwise_cons.1 h1
    have hy : ∀ a ∈ s.1, neB x y = true → befT a y := fun a ha hn => h3 a ha y (by simp) hn
    have hxy : cB x y = true → neB x y = true → befT x y := fun hc hn => by
      rw [cB_iff] at hc
      rw [neB_iff] at hn
      unfold befT
      omega
    have hxr : cB x y = true → ∀ b ∈ r, befT x b := fun hc b hb => by
      have := h1'.1 b hb
      rw [cB_iff] at hc
      unfold befT at this ⊢
      omega
    have hyx : cB x y = false → befT y x ∧ neB x y = true := fun hc => by
      have : ¬ (x.k < y.k ∨ (y.k = x.k ∧ x.d ≤ y.d)) := fun h => by rw [← cB_iff, hc] at h; cases h
      rw [neB_iff]
      unfold befT
      omega
    refine srt_fold x r (stP x s y) h1'.2 ?_ ?_ ?_ ?_
    · show Srt (s.1 ++ (if (!s.2 && cB x y) = true then [x] else []) ++ (if neB x y = true then [y] else []))
      unfold Srt
      rw [List.pairwise_append, List.pairwise_append]
      refine ⟨⟨h2, by split <;> simp, fun a ha b hb => ?_⟩, by split <;> simp, fun a ha b hb => ?_⟩
      · split at hb
        · rename_i hc
          rw [Bool.and_eq_true] at hc
          rw [List.mem_singleton.1 hb]
          exact h4 (by simpa using hc.1) a ha
        · cases hb
      · split at hb
        · rename_i hn
          rw [List.mem_singleton.1 hb]
          rcases List.mem_append.1 ha with ha | ha
          · exact hy a ha hn
          · split at ha
            · rename_i hc
              rw [Bool.and_eq_true] at hc
              rw [List.mem_singleton.1 ha]
              exact hxy hc.2 hn
            · cases ha
        · cases hb
    · intro a ha b hb hn
      have ha' : a ∈ s.1 ++ (if (!s.2 && cB x y) = true then [x] else []) ++ (if neB x y = true then [y] else []) := ha
      rcases List.mem_append.1 ha' with ha' | ha'
      · rcases List.mem_append.1 ha' with ha' | ha'
        · exact h3 a ha' b (by simp [hb]) hn
        · split at ha'
          · rename_i hc
            rw [Bool.and_eq_true] at hc
            rw [List.mem_singleton.1 ha']
            exact hxr hc.2 b hb
          · cases ha'
      · split at ha'
        · rw [List.mem_singleton.1 ha']; exact h1'.1 b hb
        · cases ha'
    · intro hs a ha
      have hs' : (s.2 || cB x y) = false := hs
      rw [Bool.or_eq_false_iff] at hs'
      have ha' : a ∈ s.1 ++ (if (!s.2 && cB x y) = true then [x] else []) ++ (if neB x y = true then [y] else []) := ha
      rw [hs'.1, hs'.2] at ha'
      rcases List.mem_append.1 ha' with ha' | ha'
      · rcases List.mem_append.1 ha' with ha' | ha'
        · exact h4 hs'.1 a ha'
        · simp at ha'
      · split at ha'
        · rw [List.mem_singleton.1 ha']; exact (hyx hs'.2).1
        · cases ha'
    · intro hs b hb hn
      have hs' : (s.2 || cB x y) = true := hs
      rw [Bool.or_eq_true] at hs'
      rcases hs' with hs' | hs'
      · exact h5 hs' b (by simp [hb]) hn
      · exact hxr hs' b hb
theorem srt_put {l : List Fct} (x : Fct) (h : Srt l) : Srt (putL l x) := by
  have := srt_fold x l ([], false) h List.Pairwise.nil (fun a ha => by cases ha) (fun _ a ha => by cases ha) (fun e => by cases e)
  unfold putL runP
  by_cases c : (l.foldl (stP x) ([], false)).2 = true
  · rw [if_pos c]; exact this.1
  · rw [if_neg c]
    unfold Srt
    rw [List.pairwise_append]
    refine ⟨this.1, by simp, fun a ha b hb => ?_⟩
    rw [List.mem_singleton.1 hb]
    exact this.2 (by simpa using c) a ha

/-- A map as the list says it: V: what a fact's element reads as. -/
structure RelV (V : Fct → DataW Unit) (D : DataW Unit) (l : List Fct) : Prop where
  im : IsMap D
  srt : Srt l
  ok : ∀ t ∈ l, I64 t.k ∧ I64 t.d
  val : ∀ t ∈ l, Maps.has D (plk t.k t.d) = true ∧ ∀ zd, D.atKey (plk t.k t.d) zd = V t
  all : ∀ k d, I64 k → I64 d → Maps.has D (plk k d) = true → ∃ t ∈ l, t.k = k ∧ t.d = d
theorem RelV.start (V : Fct → DataW Unit) : RelV V (.map []) [] := ⟨isMap_empty, List.Pairwise.nil, fun t h => (by cases h), fun t h => (by cases h), fun k d _ _ h => (by cases h)⟩
theorem RelV.put {V : Fct → DataW Unit} {D : DataW Unit} {l : List Fct} (h : RelV V D l) (x : Fct) (hk : I64 x.k) (hd : I64 x.d) : RelV V (D.put (plk x.k x.d) (V x)) (putL l x) := by
  refine ⟨h.im.put _ _, srt_put x h.srt, fun t ht => ?_, fun t ht => ?_, fun k d hk' hd' hh => ?_⟩
  · rcases mem_put.1 ht with rfl | ⟨ht, _⟩
    · exact ⟨hk, hd⟩
    · exact h.ok t ht
  · rcases mem_put.1 ht with rfl | ⟨ht, hn⟩
    · exact ⟨has_put_same h.im (plk_ok hk hd) _, fun zd => atKey_put_same h.im (plk_ok hk hd) _ zd⟩
    · obtain ⟨a1, a2⟩ := h.ok t ht
      have hne := plk_ne a1 a2 hk hd (neB_iff.1 hn)
      obtain ⟨b1, b2⟩ := h.val t ht
      exact ⟨(has_put_other hne _).trans b1, fun zd => (atKey_put_other hne _ zd).trans (b2 zd)⟩
  · by_cases e : k = x.k ∧ d = x.d
    · exact ⟨x, mem_put.2 (.inl rfl), e.1.symm, e.2.symm⟩
    · rw [has_put_other (plk_ne hk' hd' hk hd e)] at hh
      obtain ⟨t, ht, rfl, rfl⟩ := h.all k d hk' hd' hh
      exact ⟨t, mem_put.2 (.inr ⟨ht, neB_iff.2 e⟩), rfl, rfl⟩
theorem runP_len (x : Fct) : ∀ (l : List Fct) (s : List Fct × Bool), (l.foldl (stP x) s).1.length + (if (l.foldl (stP x) s).2 = true then 0 else 1) ≤ s.1.length + l.length + (if s.2 = true then 0 else 1)
  | [], s => Nat.le_refl _
  | y :: r, s => by
    rw [List.foldl_cons]
    have ih := runP_len x r (stP x s y)
    have e : (stP x s y).1.length + (if (stP x s y).2 = true then 0 else 1) ≤ s.1.length + 1 + (if s.2 = true then 0 else 1) := by
      unfold stP
      dsimp only
      rw [List.length_append, List.length_append]
      cases hs : s.2 <;> cases hc : cB x y <;> cases hn : neB x y <;> simp [hs, hc, hn] <;> omega
    rw [List.length_cons]
    omega
theorem putL_len (l : List Fct) (x : Fct) : (putL l x).length ≤ l.length + 1 := by
  have := runP_len x l ([], false)
  unfold putL runP
  by_cases c : (l.foldl (stP x) ([], false)).2 = true
  · rw [if_pos c]
    rw [if_pos c] at this
    simpa using this
  · rw [if_neg c, List.length_append]
    rw [if_neg c] at this
    simpa using this
theorem runP_len2 (l : List Fct) (x : Fct) : (runP x l).1.length ≤ l.length + 1 := by
  have := runP_len x l ([], false)
  unfold runP
  simp at this
  omega
/-- What is known, as lists. -/
def plF (L : List Tol) : List Fct := L.foldl (fun a t => if t.c = true then a else if tolE t = 0 then putL a ⟨t.k, t.d, t.x, t.y, 0⟩ else a) []
def plC (L : List Tol) : List Fct := L.foldl (fun a t => if t.c = true then (if tolE t = 0 then putL a ⟨t.k, t.d, 0, 0, t.p⟩ else a) else a) []
theorem plF_snoc (L : List Tol) (t : Tol) : plF (L ++ [t]) = if t.c = true then plF L else if tolE t = 0 then putL (plF L) ⟨t.k, t.d, t.x, t.y, 0⟩ else plF L := by unfold plF; rw [List.foldl_append]; rfl
theorem plC_snoc (L : List Tol) (t : Tol) : plC (L ++ [t]) = if t.c = true then (if tolE t = 0 then putL (plC L) ⟨t.k, t.d, 0, 0, t.p⟩ else plC L) else plC L := by unfold plC; rw [List.foldl_append]; rfl
abbrev vR (t : Fct) : DataW Unit := ratD t.x t.y
abbrev vI (t : Fct) : DataW Unit := intD t.p
theorem rel_made (L : List Tol) : ∀ n, n ≤ L.length → (∀ j, j < L.length → (L.getD j default).Ok) → RelV vR (mkF (L.take n)) (plF (L.take n)) ∧ RelV vI (mkC (L.take n)) (plC (L.take n)) ∧ (plF (L.take n)).length ≤ n ∧ (plC (L.take n)).length ≤ n
  | 0, _, _ => ⟨RelV.start _, RelV.start _, Nat.le_refl _, Nat.le_refl _⟩
  | n + 1, hn, hok => by
    obtain ⟨h1, h2, h3, h4⟩ := rel_made L n (by omega) hok
    have ht := hok n (by omega)
    rw [take_getD (by omega), mkF_snoc, mkC_snoc, plF_snoc, plC_snoc]
    generalize L.getD n default = t at *
    unfold tolF tolC
    have p1 := putL_len (plF (L.take n)) ⟨t.k, t.d, t.x, t.y, 0⟩
    have p2 := putL_len (plC (L.take n)) ⟨t.k, t.d, 0, 0, t.p⟩
    by_cases c : t.c = true
    · rw [if_pos c, if_pos c, if_pos c, if_pos c]
      by_cases e : tolE t = 0
      · rw [if_pos e, if_pos e]
        exact ⟨h1, h2.put ⟨t.k, t.d, 0, 0, t.p⟩ ht.1 ht.2.1, by omega, by omega⟩
      · rw [if_neg e, if_neg e]
        exact ⟨h1, h2, by omega, by omega⟩
    · rw [if_neg c, if_neg c, if_neg c, if_neg c]
      by_cases e : tolE t = 0
      · rw [if_pos e, if_pos e]
        exact ⟨h1.put ⟨t.k, t.d, t.x, t.y, 0⟩ ht.1 ht.2.1, h2, by omega, by omega⟩
      · rw [if_neg e, if_neg e]
        exact ⟨h1, h2, by omega, by omega⟩

end Go.Proofs.YtjafbfepdmgjnaaGreatDoor

namespace Go.Proofs.YtjafbfepdmgjnaaGreatDoor
open Go.RowKit Go.Lib
set_option linter.unusedVariables false
set_option linter.unusedSimpArgs false

def fcV (t : Fct) : Value := .agg #[.int .i64 t.k, .int .i64 t.d, .int .i64 t.x, .int .i64 t.y, .int .i64 t.p]
theorem keepG {w w' : World} {row : Option Nat} {b i : Nat} {v : Value} (hg : w.grownBy w' row) (h : w.cell? ⟨b, i, none⟩ = some v) (hne : some b ≠ row) : w'.cell? ⟨b, i, none⟩ = some v := (World.cell?_of_block (hg.block b (ltF h) hne)).trans h
theorem FctC.keepG {w w' : World} {row : Option Nat} {b p : Nat} {n : Fct} (h : FctC w b p n) (hg : w.grownBy w' row) (hne : some b ≠ row) : FctC w' b p n :=
  ⟨YtjafbfepdmgjnaaGreatDoor.keepG hg h.c0 hne, YtjafbfepdmgjnaaGreatDoor.keepG hg h.c1 hne, YtjafbfepdmgjnaaGreatDoor.keepG hg h.c2 hne, YtjafbfepdmgjnaaGreatDoor.keepG hg h.c3 hne, YtjafbfepdmgjnaaGreatDoor.keepG hg h.c4 hne⟩
theorem fctC_new (w : World) (t : Fct) (ty : TypeId) : FctC (w.alloc (.cells #[.int .i64 t.k, .int .i64 t.d, .int .i64 t.x, .int .i64 t.y, .int .i64 t.p] ty)) w.heap.size 0 t := by
  refine ⟨?_, ?_, ?_, ?_, ?_⟩
  all_goals rw [World.cell?_alloc_at _ _ _ _ rfl]; rfl
theorem take_getT {L : List Fct} {i : Nat} (h : i < L.length) : L.take (i + 1) = L.take i ++ [L.getD i default] := by
  rw [List.take_add_one, List.getElem?_eq_getElem h, List.getD_eq_getElem?_getD, List.getElem?_eq_getElem h]; rfl
set_option maxRecDepth 100000 in
set_option maxHeartbeats 8000000 in
theorem put_any (w : World) (v : Value) (l : List Fct) (x : Fct) (h : SlFct w v l) (hl : l.length ≤ 1000) :
    Calls Tryz.prog 37 #[v, fcV x] w fun e w' => ∃ v', e = .returned v' ∧ OwnT w' w.heap.size v' (putL l x) ∧ Below w.heap.size w w' := by
  obtain ⟨va, vc, rfl⟩ := h.slice
  obtain ⟨xk, xd, xx, xy, xp⟩ := x
  have hb0 := newF w (.cells #[.int .i64 xk, .int .i64 xd, .int .i64 xx, .int .i64 xy, .int .i64 xp] 89)
  have HSl := Lib.hid (h.keep hb0)
  have HX0 := Lib.hid (fctC_new w ⟨xk, xd, xx, xy, xp⟩ 89)
  have HB0 := Lib.hid hb0
  have hz : (w.alloc (.cells #[.int .i64 xk, .int .i64 xd, .int .i64 xx, .int .i64 xy, .int .i64 xp] 89)).heap.size = w.heap.size + 1 := by simp
  have HZ := Lib.hid hz
  have HL2 := Lib.hid (fun i => runP_len2 (l.take i) ⟨xk, xd, xx, xy, xp⟩)
  unfold fcV
  dsimp only
  clear h hb0 hz
  go_enter Tryz.func37, Tryz.ntmps37
  go_wp2_with fail
  generalize w.alloc (.cells #[.int .i64 xk, .int .i64 xd, .int .i64 xx, .int .i64 xy, .int .i64 xp] 89) = W0 at *
  go_loopw [5, 6, 7] (fun vo vb vi wx => ∃ i : Nat, i ≤ l.length ∧ vi = .int .i64 (i : Nat) ∧ vb = .bool (runP ⟨xk, xd, xx, xy, xp⟩ (l.take i)).2 ∧ OwnT wx W0.heap.size vo (runP ⟨xk, xd, xx, xy, xp⟩ (l.take i)).1 ∧ Below W0.heap.size W0 wx) (fun _ _ vi _ => l.length - (RowKit.intOf vi).toNat)
  case atStart => exact ⟨0, Nat.zero_le _, rfl, rfl, OwnT.nil _ _, Below.refl _ _⟩
  case round =>
    obtain ⟨i, hi, rfl, rfl, ho, hb⟩ := hrel
    have HBr := Lib.hid hb
    have HLr := Lib.hid (HL2.out i)
    by_cases hlt : i < l.length
    · have HSn := Lib.hid (runP_snoc ⟨xk, xd, xx, xy, xp⟩ (l.take i) (l.getD i default))
      rw [← take_getT hlt] at HSn
      have p0 : (0 : Int) ≤ (i : Int) := by omega
      have p1 : (i : Int) < (l.length : Int) := by omega
      obtain ⟨b, o, cap, hv, hc1, hc2, hT⟩ : ∃ b o cap, Value.slice va l.length vc = .slice (some ⟨b, o, none⟩) l.length cap ∧ l.length ≤ cap ∧ cap ≤ 9223372036854775807 ∧ FctA W0 b o l := by
        rcases HSl.out with ⟨e, _⟩ | ⟨_, b, o, cap, h1, h2, h3, h4⟩
        · rw [e] at hlt; exact absurd hlt (Nat.not_lt_zero _)
        · exact ⟨b, o, cap, h1, h2, h3, h4⟩
      injection hv with hv1 _ hv3
      subst hv1 hv3
      have hk := (hT i hlt).keep hb
      have HLt := Lib.hid hlt
      have hiN : i ≤ 1000 := by omega
      generalize l.getD i default = y at *
      generalize hR : runP ⟨xk, xd, xx, xy, xp⟩ (l.take i) = R at *
      obtain ⟨T, bi⟩ := R
      obtain ⟨yk, yd, yx, yy, yp⟩ := y
      dsimp only at ho HLr
      obtain ⟨k0, k1, k2, k3, k4⟩ := hk
      dsimp only at k0 k1 k2 k3 k4
      have HO := Lib.hid ho
      have hTl : T.length ≤ 1001 := by have := HLr.out; rw [List.length_take] at this; omega
      have HX := Lib.hid (HX0.out.keep hb)
      have HXn : Hid (some w.heap.size ≠ Value.ownBlock u5) := Lib.hid (fun e => by have := (World.ownsRow.lt ho _ e.symm).1; have := HZ.out; omega)
      have HYn : Hid (some wr.heap.size ≠ Value.ownBlock u5) := Lib.hid (fun e => by have := (World.ownsRow.lt ho _ e.symm).2; omega)
      have HY := Lib.hid (fctC_new wr ⟨yk, yd, yx, yy, yp⟩ 89)
      have HB1 := Lib.hid (onF hb (newF wr (.cells #[.int .i64 yk, .int .i64 yd, .int .i64 yx, .int .i64 yy, .int .i64 yp] 89)))
      have HO1 := Lib.hid (ho.grown (newF wr (.cells #[.int .i64 yk, .int .i64 yd, .int .i64 yx, .int .i64 yy, .int .i64 yp] 89)))
      have HX1 := Lib.hid (HX.out.keep (newF wr (.cells #[.int .i64 yk, .int .i64 yd, .int .i64 yx, .int .i64 yy, .int .i64 yp] 89)))
      have hzr : (wr.alloc (.cells #[.int .i64 yk, .int .i64 yd, .int .i64 yx, .int .i64 yy, .int .i64 yp] 89)).heap.size = wr.heap.size + 1 := by simp
      have HZr := Lib.hid hzr
      obtain ⟨cc, hcc⟩ : ∃ cc, cc = (!bi && cB ⟨xk, xd, xx, xy, xp⟩ ⟨yk, yd, yx, yy, yp⟩) := ⟨_, rfl⟩
      obtain ⟨nn, hnn⟩ : ∃ nn, nn = neB ⟨xk, xd, xx, xy, xp⟩ ⟨yk, yd, yx, yy, yp⟩ := ⟨_, rfl⟩
      have HCc := Lib.hid hcc
      have HNn := Lib.hid hnn
      clear ho hb hT hR hcc hnn hlt hzr HL2
      go_upto_region 7 with fail
      clear k0 k1 k2 k3 k4
      generalize wr.alloc (.cells #[.int .i64 yk, .int .i64 yd, .int .i64 yx, .int .i64 yy, .int .i64 yp] 89) = W1 at *
      go_cut [41] from 9 to 61 (fun v wx => v = .bool cc ∧ W1 = wx)
      case first =>
        obtain ⟨x0, x1, x2, x3, x4⟩ := HX1.out
        obtain ⟨y0, y1, y2, y3, y4⟩ := HY.out
        dsimp only at x0 x1 y0 y1
        clear x2 x3 x4 y2 y3 y4 HSl
        cases bi with
        | true =>
          have e : cc = false := by rw [HCc.out]; rfl
          have E := Lib.hid e
          clear e
          go_wp2_with fail
          go_meet
          exact ⟨congrArg Value.bool E.out.symm, rfl⟩
        | false =>
          by_cases q1 : xk < yk
          · have E : Hid (cc = true) := Lib.hid (by rw [HCc.out]; simp [cB, q1])
            go_wp2_with fail
            go_meet
            exact ⟨congrArg Value.bool E.out.symm, rfl⟩
          · by_cases q2 : yk = xk
            · subst q2
              by_cases q3 : xd ≤ yd
              · have E : Hid (cc = true) := Lib.hid (by rw [HCc.out]; simp [cB, q3])
                go_wp2_with fail
                go_meet
                exact ⟨congrArg Value.bool E.out.symm, rfl⟩
              · have E : Hid (cc = false) := Lib.hid (by rw [HCc.out]; simp [cB, q3])
                go_wp2_with fail
                go_meet
                exact ⟨congrArg Value.bool E.out.symm, rfl⟩
            · have E : Hid (cc = false) := Lib.hid (by rw [HCc.out]; simp [cB, q1, q2])
              have q2' : (yk == xk) = false := beq_false_of_ne q2
              go_wp2_with fail
              go_meet
              exact ⟨congrArg Value.bool E.out.symm, rfl⟩
      case rest =>
        obtain ⟨rfl, hw⟩ := hcut
        subst hw
        go_upto_if 41 with fail
        go_cut [5, 6] from 9 to 61 (fun vo vb wx => vb = .bool (bi || cc) ∧ ∃ T2, T2 = T ++ (if cc = true then [⟨xk, xd, xx, xy, xp⟩] else []) ∧ OwnT wx W0.heap.size vo T2 ∧ Below W0.heap.size W0 wx ∧ FctC wx wr.heap.size 0 ⟨yk, yd, yx, yy, yp⟩ ∧ FctC wx w.heap.size 0 ⟨xk, xd, xx, xy, xp⟩ ∧ some wr.heap.size ≠ Value.ownBlock vo ∧ some w.heap.size ≠ Value.ownBlock vo)
        case first =>
          cases cc with
          | true =>
            obtain ⟨x0, x1, x2, x3, x4⟩ := HX1.out
            dsimp only at x0 x1 x2 x3 x4
            clear HSl
            go_wp2_with (at_builtin; refine wpList_append_fct rfl (.tmp 42) (.tmp 44) rfl W0.heap.size u5 T rfl (HO1.out.grown (newF _ _)) _ [⟨xk, xd, xx, xy, xp⟩] rfl ((OwnT.one W1 0 ⟨xk, xd, xx, xy, xp⟩ (Nat.zero_le _)).sl) (by simp; omega) (by have := HB1.out.size; simp; omega) ?_; intro va2 w2 ho2 hg2 hat2)
            go_meet
            refine ⟨by rw [Bool.or_true], _, rfl, ?_, ?_, ?_, ?_, ?_, ?_⟩
            · simpa using ho2
            · exact below_fct (HB1.out.trans ((newF W1 _).mono (by have := HB1.out.size; omega))) (HO1.out.grown (newF W1 _)) (Nat.le_refl _) (by have := HB1.out.size; simp; omega) hg2
            · exact (HY.out.keep (newF _ _)).keepG hg2 HYn.out
            · exact (HX1.out.keep (newF _ _)).keepG hg2 HXn.out
            · rcases hat2 with e | e
              · rw [e]; exact HYn.out
              · rw [e]; intro e2; injection e2 with e2; have := HZr.out; simp at e2; omega
            · rcases hat2 with e | e
              · rw [e]; exact HXn.out
              · rw [e]; intro e2; injection e2 with e2; have := HZr.out; have := HZ.out; have := HB1.out.size; simp at e2; omega
          | false =>
            go_wp2_with fail
            go_meet
            exact ⟨by rw [Bool.or_false], T, by simp, HO1.out, HB1.out, HY.out, HX1.out, HYn.out, HXn.out⟩
        case rest =>
          obtain ⟨rfl, T2, hT2, ho2, hb2, hy2, hx2, hyn, hxn⟩ := hcut
          have HO2 := Lib.hid ho2
          have HB2 := Lib.hid hb2
          have HY2 := Lib.hid hy2
          have HX2 := Lib.hid hx2
          have HT2 := Lib.hid hT2
          have hT2l : T2.length ≤ 1002 := by rw [hT2, List.length_append]; split <;> simp <;> omega
          clear ho2 hb2 hy2 hx2 hT2 hyn hxn HO1 HB1 HY HX1 HO HX HYn HXn HZr
          generalize wc = W2 at *
          go_upto_region 10 with fail
          go_cut [57] from 9 to 61 (fun v wx => v = .bool nn ∧ W2 = wx)
          case first =>
            obtain ⟨x0, x1, x2, x3, x4⟩ := HX2.out
            obtain ⟨y0, y1, y2, y3, y4⟩ := HY2.out
            dsimp only at x0 x1 y0 y1
            clear x2 x3 x4 y2 y3 y4 HSl
            by_cases q2 : yk = xk
            · subst q2
              by_cases q3 : yd = xd
              · have E : Hid (nn = false) := Lib.hid (by rw [HNn.out]; simp [neB, q3])
                subst q3
                go_wp2_with fail
                go_meet
                exact ⟨congrArg Value.bool E.out.symm, rfl⟩
              · have E : Hid (nn = true) := Lib.hid (by rw [HNn.out]; simp [neB, q3])
                have q3' : (yd == xd) = false := beq_false_of_ne q3
                have q3'' : (yd != xd) = true := by simp [q3]
                go_wp2_with fail
                go_meet
                exact ⟨congrArg Value.bool E.out.symm, rfl⟩
            · have E : Hid (nn = true) := Lib.hid (by rw [HNn.out]; simp [neB, q2])
              have q2' : (yk == xk) = false := beq_false_of_ne q2
              go_wp2_with fail
              go_meet
              exact ⟨congrArg Value.bool E.out.symm, rfl⟩
          case rest =>
            obtain ⟨rfl, hw⟩ := hcut
            subst hw
            have HSt : Hid (∀ T3, T3 = T2 ++ (if nn = true then [⟨yk, yd, yx, yy, yp⟩] else []) → (T3, (bi || cB ⟨xk, xd, xx, xy, xp⟩ ⟨yk, yd, yx, yy, yp⟩)) = runP ⟨xk, xd, xx, xy, xp⟩ (l.take (i + 1))) := Lib.hid (fun T3 h3 => by
              rw [HSn.out, h3, HT2.out, HNn.out, HCc.out]
              rfl)
            have HBc : Hid ((bi || cc) = (bi || cB ⟨xk, xd, xx, xy, xp⟩ ⟨yk, yd, yx, yy, yp⟩)) := Lib.hid (by rw [HCc.out]; cases bi <;> simp)
            cases nn with
            | true =>
              obtain ⟨y0, y1, y2, y3, y4⟩ := HY2.out
              dsimp only at y0 y1 y2 y3 y4
              clear HSl
              go_wp2_with (at_builtin; refine wpList_append_fct rfl (.tmp 58) (.tmp 60) rfl W0.heap.size u5 T2 rfl (HO2.out.grown (newF _ _)) _ [⟨yk, yd, yx, yy, yp⟩] rfl ((OwnT.one W2 0 ⟨yk, yd, yx, yy, yp⟩ (Nat.zero_le _)).sl) (by simp; omega) (by have := HB2.out.size; simp; omega) ?_; intro va2 w2 ho2 hg2 hat2)
              have hrun := HSt.out _ (by rw [if_pos rfl])
              have HO3 := Lib.hid ho2
              have HB3 := Lib.hid (below_fct (HB2.out.trans ((newF W2 (.cells #[.int .i64 yk, .int .i64 yd, .int .i64 yx, .int .i64 yy, .int .i64 yp] 89)).mono (by have := HB2.out.size; omega))) (HO2.out.grown (newF W2 _)) (Nat.le_refl _) (by have := HB2.out.size; simp; omega) hg2)
              have HR := Lib.hid hrun
              clear hrun ho2 hg2 hat2
              go_roundw
              case rel => exact ⟨i + 1, HLt.out, by go_num, by rw [HBc.out, ← HR.out], by rw [← HR.out]; exact HO3.out, HB3.out⟩
              case measure => have := HLt.out; simp [RowKit.intOf]; omega
            | false =>
              have hrun := HSt.out T2 (by simp)
              have HR := Lib.hid hrun
              clear hrun HSl
              go_wp2_with fail
              go_roundw
              case rel => exact ⟨i + 1, HLt.out, by go_num, by rw [HBc.out, ← HR.out], by rw [← HR.out]; exact HO2.out, HB2.out⟩
              case measure => have := HLt.out; simp [RowKit.intOf]; omega
    · have hie : i = l.length := by omega
      subst hie
      have p1 : ¬ (l.length : Int) < (l.length : Int) := by omega
      rw [List.take_length] at ho HLr
      rw [List.take_length]
      have HPt : Hid (putL l ⟨xk, xd, xx, xy, xp⟩ = if (runP ⟨xk, xd, xx, xy, xp⟩ l).2 = true then (runP ⟨xk, xd, xx, xy, xp⟩ l).1 else (runP ⟨xk, xd, xx, xy, xp⟩ l).1 ++ [⟨xk, xd, xx, xy, xp⟩]) := Lib.hid rfl
      have HX := Lib.hid (HX0.out.keep hb)
      generalize runP ⟨xk, xd, xx, xy, xp⟩ l = R at *
      obtain ⟨T, bi⟩ := R
      dsimp only at ho HLr HPt
      have HO := Lib.hid ho
      have hTl : T.length ≤ 1001 := by have := HLr.out; omega
      have HS0 := Lib.hid HB0.out.size
      clear ho hb HL2 HSl
      cases bi with
      | true =>
        rw [if_pos rfl] at HPt
        go_wp2_with fail
        go_ret
        exact ⟨_, rfl, by rw [HPt.out]; exact HO.out.base HS0.out, onF HB0.out HBr.out⟩
      | false =>
        rw [if_neg (by decide)] at HPt
        obtain ⟨x0, x1, x2, x3, x4⟩ := HX.out
        dsimp only at x0 x1 x2 x3 x4
        go_wp2_with (at_builtin; refine wpList_append_fct rfl (.tmp 64) (.tmp 66) rfl W0.heap.size u5 T rfl (HO.out.grown (newF _ _)) _ [⟨xk, xd, xx, xy, xp⟩] rfl ((OwnT.one wr 0 ⟨xk, xd, xx, xy, xp⟩ (Nat.zero_le _)).sl) (by simp; omega) (by have := HBr.out.size; simp; omega) ?_; intro va2 w2 ho2 hg2 hat2)
        have HO3 := Lib.hid ho2
        have HB3 := Lib.hid (below_fct (HBr.out.trans ((newF wr (.cells #[.int .i64 xk, .int .i64 xd, .int .i64 xx, .int .i64 xy, .int .i64 xp] 89)).mono (by have := HBr.out.size; omega))) (HO.out.grown (newF wr _)) (Nat.le_refl _) (by have := HBr.out.size; simp; omega) hg2)
        clear ho2 hg2 hat2
        go_wp2_with fail
        go_ret
        exact ⟨_, rfl, by rw [HPt.out]; exact HO3.out.base HS0.out, onF HB0.out HB3.out⟩

end Go.Proofs.YtjafbfepdmgjnaaGreatDoor

namespace Go.Proofs.YtjafbfepdmgjnaaGreatDoor
open Go.RowKit Go.Lib
set_option linter.unusedVariables false
set_option linter.unusedSimpArgs false

set_option maxRecDepth 100000 in
set_option maxHeartbeats 4000000 in
theorem wrong_any (t : Tol) (ht : t.Ok) (w : World) : Calls Tryz.prog 36 #[tolV t] w fun e w' => e = .returned (.int .i64 (tolE t)) ∧ Below w.heap.size w w' := by
  obtain ⟨c, k, d, x, y, p⟩ := t
  obtain ⟨hk, hd, hx, hy, hp⟩ := ht
  have HB := Lib.hid (newF w (.cells #[.bool c, .int .i64 k, .int .i64 d, .int .i64 x, .int .i64 y, .int .i64 p] 62))
  have HCk := Lib.hid (fun w' => rcheck_any x y w' hx.1 hx.2 hy.1 hy.2)
  obtain ⟨E, hE⟩ : ∃ E, E = tolE ⟨c, k, d, x, y, p⟩ := ⟨_, rfl⟩
  rw [← hE]
  have HE := Lib.hid hE
  unfold tolV
  dsimp only at *
  clear hE hk hd hx hy hp
  by_cases a1 : k < 0
  · have e : E = 10 := by rw [HE.out]; cases c <;> simp [tolE, choE, fixE, plcE, a1]
    subst e
    go_enter Tryz.func36, Tryz.ntmps36
    go_wp2_with fail
    go_ret
    exact ⟨rfl, HB.out⟩
  by_cases a2 : 63 < k
  · have e : E = 10 := by rw [HE.out]; cases c <;> simp [tolE, choE, fixE, plcE, a2]
    subst e
    go_enter Tryz.func36, Tryz.ntmps36
    go_wp2_with fail
    go_ret
    exact ⟨rfl, HB.out⟩
  cases c with
  | true =>
    by_cases b : p = 1 ∨ p = 2
    · by_cases d1 : d < 0
      · have e : E = 18 := by rw [HE.out]; rcases b with rfl | rfl <;> simp [tolE, choE, plcE, a1, a2, d1]
        subst e
        rcases b with rfl | rfl
        · go_enter Tryz.func36, Tryz.ntmps36
          go_wp2_with fail
          go_ret
          exact ⟨rfl, HB.out⟩
        · go_enter Tryz.func36, Tryz.ntmps36
          go_wp2_with fail
          go_ret
          exact ⟨rfl, HB.out⟩
      by_cases d2 : 73048 < d
      · have e : E = 18 := by rw [HE.out]; rcases b with rfl | rfl <;> simp [tolE, choE, plcE, a1, a2, d2]
        subst e
        rcases b with rfl | rfl
        · go_enter Tryz.func36, Tryz.ntmps36
          go_wp2_with fail
          go_ret
          exact ⟨rfl, HB.out⟩
        · go_enter Tryz.func36, Tryz.ntmps36
          go_wp2_with fail
          go_ret
          exact ⟨rfl, HB.out⟩
      have e : E = 0 := by rw [HE.out]; rcases b with rfl | rfl <;> simp [tolE, choE, plcE, a1, a2, d1, d2]
      subst e
      rcases b with rfl | rfl
      · go_enter Tryz.func36, Tryz.ntmps36
        go_wp2_with fail
        go_ret
        exact ⟨rfl, HB.out⟩
      · go_enter Tryz.func36, Tryz.ntmps36
        go_wp2_with fail
        go_ret
        exact ⟨rfl, HB.out⟩
    · have e : E = 10 := by rw [HE.out]; simp only [tolE, choE, if_true]; rw [if_pos (by omega)]
      subst e
      have p1 : (p != 1) = true := by simp; omega
      have p2 : (p != 2) = true := by simp; omega
      clear b
      go_enter Tryz.func36, Tryz.ntmps36
      go_wp2_with fail
      go_ret
      exact ⟨rfl, HB.out⟩
  | false =>
    by_cases d1 : d < 0
    · have e : E = 18 := by rw [HE.out]; simp [tolE, fixE, plcE, a1, a2, d1]
      subst e
      go_enter Tryz.func36, Tryz.ntmps36
      go_wp2_with fail
      go_ret
      exact ⟨rfl, HB.out⟩
    by_cases d2 : 73048 < d
    · have e : E = 18 := by rw [HE.out]; simp [tolE, fixE, plcE, a1, a2, d2]
      subst e
      go_enter Tryz.func36, Tryz.ntmps36
      go_wp2_with fail
      go_ret
      exact ⟨rfl, HB.out⟩
    have e : E = chkE x y := by rw [HE.out]; simp [tolE, fixE, plcE, a1, a2, d1, d2]
    have EE := Lib.hid e
    clear e
    go_enter Tryz.func36, Tryz.ntmps36
    go_wp2_with fail
    refine (HCk.out _).mono ?_
    rintro e w2 ⟨rfl, hb⟩
    have HB2 := Lib.hid (onF HB.out hb)
    clear hb HCk
    go_wp2_with fail
    go_ret
    exact ⟨by rw [EE.out]; rfl, HB2.out⟩

set_option maxRecDepth 100000 in
set_option maxHeartbeats 4000000 in
theorem plain_any (w : World) (v : Value) (L : List Tol) (h : SlTol w v L) (hL : L.length ≤ 60) (hok : ∀ j, j < L.length → (L.getD j default).Ok) :
    Calls Tryz.prog 16 #[v] w fun e w' => ∃ a b, e = .returned (.tuple #[a, b]) ∧ SlFct w' a (plF L) ∧ SlFct w' b (plC L) ∧ Below w.heap.size w w' := by
  have HR := Lib.hid (fun n (hn : n ≤ L.length) => (rel_made L n hn hok).2.2)
  obtain ⟨va, vc, rfl⟩ : ∃ a c, v = .slice a L.length c := by
    rcases h with ⟨rfl, a, c, rfl⟩ | ⟨_, b, o, c, rfl, _⟩
    · exact ⟨a, c, rfl⟩
    · exact ⟨_, _, rfl⟩
  have HSl := Lib.hid h
  have HOk := Lib.hid hok
  clear h hok
  go_enter Tryz.func16, Tryz.ntmps16
  go_wp2_with fail
  go_loopw [4, 5, 6] (fun u1 u2 vi wx => ∃ i : Nat, i ≤ L.length ∧ vi = .int .i64 (i : Nat) ∧ SlFct wx u1 (plF (L.take i)) ∧ SlFct wx u2 (plC (L.take i)) ∧ Below w.heap.size w wx) (fun _ _ vi _ => L.length - (RowKit.intOf vi).toNat)
  case atStart => exact ⟨0, Nat.zero_le _, rfl, .inl ⟨rfl, _, _, rfl⟩, .inl ⟨rfl, _, _, rfl⟩, Below.refl _ _⟩
  case round =>
    obtain ⟨i, hi, rfl, hs1, hs2, hb⟩ := hrel
    by_cases hlt : i < L.length
    · have p0 : (0 : Int) ≤ (i : Int) := by omega
      have p1 : (i : Int) < (L.length : Int) := by omega
      obtain ⟨b, o, cap, hv, hc1, hc2, hT⟩ : ∃ b o cap, Value.slice va L.length vc = .slice (some ⟨b, o, none⟩) L.length cap ∧ L.length ≤ cap ∧ cap ≤ 9223372036854775807 ∧ ∀ j, j < L.length → TolC w b (o + j * 6) (L.getD j default) := by
        rcases HSl.out with ⟨e, _⟩ | ⟨_, b, o, cap, h1, h2, h3, h4⟩
        · rw [e] at hlt; exact absurd hlt (Nat.not_lt_zero _)
        · exact ⟨b, o, cap, h1, h2, h3, h4⟩
      injection hv with hv1 _ hv3
      subst hv1 hv3
      have hk := (hT i hlt).keep hb
      have HLt := Lib.hid hlt
      have HSf := Lib.hid (plF_snoc (L.take i) (L.getD i default))
      have HSc := Lib.hid (plC_snoc (L.take i) (L.getD i default))
      rw [← take_getD hlt] at HSf HSc
      have hlens := HR.out i hi
      have HWr := Lib.hid (fun w' => wrong_any (L.getD i default) (HOk.out i hlt) w')
      generalize L.getD i default = t at *
      generalize plF (L.take i) = F at *
      generalize plC (L.take i) = C at *
      obtain ⟨tc, tk, td, tx, ty, tp⟩ := t
      obtain ⟨k0, k1, k2, k3, k4, k5⟩ := hk
      unfold tolV at HWr
      dsimp only at k0 k1 k2 k3 k4 k5 HWr HSf HSc
      have hbx := newF wr (.cells #[.bool tc, .int .i64 tk, .int .i64 td, .int .i64 tx, .int .i64 ty, .int .i64 tp] 62)
      have hbc : TolC (wr.alloc (.cells #[.bool tc, .int .i64 tk, .int .i64 td, .int .i64 tx, .int .i64 ty, .int .i64 tp] 62)) wr.heap.size 0 ⟨tc, tk, td, tx, ty, tp⟩ := by
        refine ⟨?_, ?_, ?_, ?_, ?_, ?_⟩
        all_goals rw [World.cell?_alloc_at _ _ _ _ rfl]; rfl
      have HBC := Lib.hid hbc
      have HB1 := Lib.hid (onF hb hbx)
      have HS1 := Lib.hid (hs1.keep hbx)
      have HS2 := Lib.hid (hs2.keep hbx)
      have hl1 : F.length ≤ 1000 := by omega
      have hl2 : C.length ≤ 1000 := by omega
      have HPf := Lib.hid (fun (w' : World) (hs : SlFct w' u4 F) => put_any w' u4 F ⟨tk, td, tx, ty, 0⟩ hs hl1)
      have HPc := Lib.hid (fun (w' : World) (hs : SlFct w' u5 C) => put_any w' u5 C ⟨tk, td, 0, 0, tp⟩ hs hl2)
      unfold fcV at HPf HPc
      dsimp only at HPf HPc
      clear hlt hs1 hs2 hb hT hbx hbc hlens hl1 hl2 HR
      go_upto_region 7 with fail
      clear k0 k1 k2 k3 k4 k5
      generalize wr.alloc (.cells #[.bool tc, .int .i64 tk, .int .i64 td, .int .i64 tx, .int .i64 ty, .int .i64 tp] 62) = W1 at *
      obtain ⟨k0, k1, k2, k3, k4, k5⟩ := HBC.out
      dsimp only at k0 k1 k2 k3 k4 k5
      go_wp2_with fail
      refine (HWr.out _).mono ?_
      rintro e w2 ⟨rfl, hb2⟩
      have HB2 := Lib.hid (onF HB1.out hb2)
      have hs1 := HS1.out.keep hb2
      have hs2 := HS2.out.keep hb2
      have HF2 := Lib.hid (HPf.out w2 hs1)
      have HC2 := Lib.hid (HPc.out w2 hs2)
      have HS1' := Lib.hid hs1
      have HS2' := Lib.hid hs2
      obtain ⟨j0, j1, j2, j3, j4, j5⟩ := HBC.out.keep hb2
      dsimp only at j0 j1 j2 j3 j4 j5
      generalize tolE ⟨tc, tk, td, tx, ty, tp⟩ = E at *
      clear hb2 hs1 hs2 HWr HBC HS1 HS2 HB1 k0 k1 k2 k3 k4 k5 HPf HPc
      by_cases e0 : E = 0
      · subst e0
        cases tc with
        | true =>
          go_wp2_with fail
          refine (HC2.out).mono ?_
          rintro e w3 ⟨v3, rfl, ho3, hb3⟩
          have HN3 := Lib.hid ho3.sl
          have HB3 := Lib.hid (onF HB2.out hb3)
          have HK3 := Lib.hid (HS1'.out.keep hb3)
          clear ho3 hb3 HC2 HF2 j0 j1 j2 j3 j4 j5
          go_wp2_with fail
          go_roundw
          case rel => exact ⟨i + 1, HLt.out, by go_num, by rw [HSf.out]; exact HK3.out, by rw [HSc.out]; exact HN3.out, HB3.out⟩
          case measure => have := HLt.out; simp [RowKit.intOf]; omega
        | false =>
          go_wp2_with fail
          refine (HF2.out).mono ?_
          rintro e w3 ⟨v3, rfl, ho3, hb3⟩
          have HN3 := Lib.hid ho3.sl
          have HB3 := Lib.hid (onF HB2.out hb3)
          have HK3 := Lib.hid (HS2'.out.keep hb3)
          clear ho3 hb3 HC2 HF2 j0 j1 j2 j3 j4 j5
          go_wp2_with fail
          go_roundw
          case rel => exact ⟨i + 1, HLt.out, by go_num, by rw [HSf.out]; exact HN3.out, by rw [HSc.out]; exact HK3.out, HB3.out⟩
          case measure => have := HLt.out; simp [RowKit.intOf]; omega
      · have e1 : (E == 0) = false := beq_false_of_ne e0
        have HE0 := Lib.hid e0
        clear e0
        go_wp2_with fail
        go_roundw
        case rel => exact ⟨i + 1, HLt.out, by go_num, by rw [HSf.out, if_neg HE0.out]; cases tc <;> exact HS1'.out, by rw [HSc.out, if_neg HE0.out]; cases tc <;> exact HS2'.out, HB2.out⟩
        case measure => have := HLt.out; simp [RowKit.intOf]; omega
    · have hie : i = L.length := by omega
      subst hie
      rw [List.take_length] at hs1 hs2
      have H1 := Lib.hid hs1
      have H2 := Lib.hid hs2
      have HB := Lib.hid hb
      have p1 : ¬ (L.length : Int) < (L.length : Int) := by omega
      clear hs1 hs2 hb
      go_wp2_with fail
      exact bodyPost_ret (v := .tuple #[u4, u5]) (by simp [results, Tryz.results16, go_sem]) rfl ⟨u4, u5, rfl, H1.out, H2.out, HB.out⟩

end Go.Proofs.YtjafbfepdmgjnaaGreatDoor

namespace Go.Proofs.YtjafbfepdmgjnaaGreatDoor
open Go.RowKit Go.Lib
set_option linter.unusedVariables false
set_option linter.unusedSimpArgs false

def isG (k d : Int) (t : Fct) : Bool := decide (t.k = k) && decide (t.d = d)
def isH (k f u p : Int) (t : Fct) : Bool := decide (t.k = k) && decide (f ≤ t.d) && decide (t.d ≤ u) && decide (t.p = p)
theorem find_take {q : Fct → Bool} {l : List Fct} {i : Nat} (hi : i < l.length) (h : (l.take i).find? q = none) : (q (l.getD i default) = true → l.find? q = some (l.getD i default)) ∧ (q (l.getD i default) = false → (l.take (i + 1)).find? q = none) := by
  have e : l = l.take (i + 1) ++ l.drop (i + 1) := (List.take_append_drop _ _).symm
  refine ⟨fun hq => ?_, fun hq => ?_⟩
  · rw [e, take_getT hi, List.find?_append, List.find?_append, h]
    simp only [Option.none_or]
    have : ((l.take i ++ [l.getD i default]) ++ l.drop (i + 1)).getD i default = l.getD i default := by rw [← take_getT hi, ← e]
    rw [this, List.find?_cons, hq]
    rfl
  · rw [take_getT hi, List.find?_append, h, Option.none_or, List.find?_cons, hq]
    rfl
set_option maxRecDepth 100000 in
set_option maxHeartbeats 4000000 in
theorem refirst_any (w : World) (v : Value) (l : List Fct) (h : SlFct w v l) (hl : l.length ≤ 1000) (k f u p : Int) :
    Calls Tryz.prog 50 #[v, .int .i64 k, .int .i64 f, .int .i64 u, .int .i64 p] w fun e w' => w = w' ∧ match l.find? (isH k f u p) with
      | some t => e = .returned (.tuple #[.int .i64 t.d, .bool true])
      | none => e = .returned (.tuple #[.int .i64 0, .bool false]) := by
  have HSl := Lib.hid h
  obtain ⟨va, vc, rfl⟩ := h.slice
  obtain ⟨r, hr⟩ : ∃ r, r = l.find? (isH k f u p) := ⟨_, rfl⟩
  rw [← hr]
  have HR := Lib.hid hr
  clear h hr
  go_enter Tryz.func50, Tryz.ntmps50
  go_wp2_with fail
  go_loopw [12] (fun vi wx => ∃ i : Nat, i ≤ l.length ∧ vi = .int .i64 (i : Nat) ∧ (l.take i).find? (isH k f u p) = none ∧ w = wx) (fun vi _ => l.length - (RowKit.intOf vi).toNat)
  case atStart => exact ⟨0, Nat.zero_le _, rfl, rfl, rfl⟩
  case round =>
    obtain ⟨i, hi, rfl, hf, hw⟩ := hrel
    subst hw
    by_cases hlt : i < l.length
    · have p0 : (0 : Int) ≤ (i : Int) := by omega
      have p1 : (i : Int) < (l.length : Int) := by omega
      obtain ⟨b, o, cap, hv, hc1, hc2, hT⟩ : ∃ b o cap, Value.slice va l.length vc = .slice (some ⟨b, o, none⟩) l.length cap ∧ l.length ≤ cap ∧ cap ≤ 9223372036854775807 ∧ FctA w b o l := by
        rcases HSl.out with ⟨e, _⟩ | ⟨_, b, o, cap, h1, h2, h3, h4⟩
        · rw [e] at hlt; exact absurd hlt (Nat.not_lt_zero _)
        · exact ⟨b, o, cap, h1, h2, h3, h4⟩
      injection hv with hv1 _ hv3
      subst hv1 hv3
      obtain ⟨k0, k1, k2, k3, k4⟩ := hT i hlt
      have HF := Lib.hid (find_take hlt hf)
      have HLt := Lib.hid hlt
      generalize l.getD i default = y at *
      obtain ⟨yk, yd, yx, yy, yp⟩ := y
      dsimp only at k0 k1 k2 k3 k4
      clear hT hf hlt
      have miss : ∀ (hq : isH k f u p ⟨yk, yd, yx, yy, yp⟩ = false), Hid ((l.take (i + 1)).find? (isH k f u p) = none) := fun hq => Lib.hid (HF.out.2 hq)
      by_cases q1 : yk = k
      · by_cases q2 : f ≤ yd
        · by_cases q3 : yd ≤ u
          · by_cases q4 : yp = p
            · have hfd := HF.out.1 (by simp [isH, q1, q2, q3, q4])
              rw [← HR.out] at hfd
              subst q1 q4 hfd
              clear HF HR HSl miss
              go_wp2_with fail
              exact bodyPost_ret (v := .tuple #[.int .i64 yd, .bool true]) (by simp [results, Tryz.results50, go_sem]) rfl ⟨rfl, rfl⟩
            · have HM := miss (by simp [isH, q4])
              have q4' : (yp == p) = false := beq_false_of_ne q4
              subst q1
              clear HF miss
              go_wp2_with fail
              go_roundw
              case rel => exact ⟨i + 1, HLt.out, by go_num, HM.out, by trivial⟩
              case measure => have := HLt.out; simp [RowKit.intOf]; omega
          · have HM := miss (by simp [isH, q3])
            subst q1
            clear HF miss
            go_wp2_with fail
            go_roundw
            case rel => exact ⟨i + 1, HLt.out, by go_num, HM.out, by trivial⟩
            case measure => have := HLt.out; simp [RowKit.intOf]; omega
        · have HM := miss (by simp [isH, q2])
          subst q1
          clear HF miss
          go_wp2_with fail
          go_roundw
          case rel => exact ⟨i + 1, HLt.out, by go_num, HM.out, by trivial⟩
          case measure => have := HLt.out; simp [RowKit.intOf]; omega
      · have HM := miss (by simp [isH, q1])
        have q1' : (yk == k) = false := beq_false_of_ne q1
        clear HF miss
        go_wp2_with fail
        go_roundw
        case rel => exact ⟨i + 1, HLt.out, by go_num, HM.out, by trivial⟩
        case measure => have := HLt.out; simp [RowKit.intOf]; omega
    · have hie : i = l.length := by omega
      subst hie
      rw [List.take_length, ← HR.out] at hf
      subst hf
      have p1 : ¬ (l.length : Int) < (l.length : Int) := by omega
      clear HR HSl
      go_wp2_with fail
      exact bodyPost_ret (v := .tuple #[.int .i64 0, .bool false]) (by simp [results, Tryz.results50, go_sem]) rfl ⟨rfl, rfl⟩

set_option maxRecDepth 100000 in
set_option maxHeartbeats 4000000 in
theorem reget_any (w : World) (v : Value) (l : List Fct) (h : SlFct w v l) (hl : l.length ≤ 1000) (k d : Int) :
    Calls Tryz.prog 48 #[v, .int .i64 k, .int .i64 d] w fun e w' => Below w.heap.size w w' ∧ match l.find? (isG k d) with
      | some t => e = .returned (.tuple #[fcV t, .bool true])
      | none => e = .returned (.tuple #[fcV ⟨0, 0, 0, 0, 0⟩, .bool false]) := by
  have hb0 := newF w (.cells #[.int .i64 0, .int .i64 0, .int .i64 0, .int .i64 0, .int .i64 0] 89)
  have HSl := Lib.hid (h.keep hb0)
  have HZ := Lib.hid (fctC_new w ⟨0, 0, 0, 0, 0⟩ 89)
  have HFz : Hid (∀ i, (w.alloc (.cells #[.int .i64 0, .int .i64 0, .int .i64 0, .int .i64 0, .int .i64 0] 89)).frozen? ⟨w.heap.size, i, none⟩ = false) := Lib.hid (fun i => World.frozen?_alloc_at _ _ _ _ rfl)
  have HB := Lib.hid hb0
  obtain ⟨va, vc, rfl⟩ := h.slice
  obtain ⟨r, hr⟩ : ∃ r, r = l.find? (isG k d) := ⟨_, rfl⟩
  rw [← hr]
  have HR := Lib.hid hr
  clear h hr hb0
  go_enter Tryz.func48, Tryz.ntmps48
  go_wp2_with fail
  generalize w.alloc (.cells #[.int .i64 0, .int .i64 0, .int .i64 0, .int .i64 0, .int .i64 0] 89) = W0 at *
  go_loopw [8] (fun vi wx => ∃ i : Nat, i ≤ l.length ∧ vi = .int .i64 (i : Nat) ∧ (l.take i).find? (isG k d) = none ∧ W0 = wx) (fun vi _ => l.length - (RowKit.intOf vi).toNat)
  case atStart => exact ⟨0, Nat.zero_le _, rfl, rfl, rfl⟩
  case round =>
    obtain ⟨i, hi, rfl, hf, hw⟩ := hrel
    subst hw
    obtain ⟨z0, z1, z2, z3, z4⟩ := HZ.out
    have f0 := HFz.out 0
    have f1 := HFz.out 1
    have f2 := HFz.out 2
    have f3 := HFz.out 3
    have f4 := HFz.out 4
    dsimp only at z0 z1 z2 z3 z4
    by_cases hlt : i < l.length
    · have p0 : (0 : Int) ≤ (i : Int) := by omega
      have p1 : (i : Int) < (l.length : Int) := by omega
      obtain ⟨b, o, cap, hv, hc1, hc2, hT⟩ : ∃ b o cap, Value.slice va l.length vc = .slice (some ⟨b, o, none⟩) l.length cap ∧ l.length ≤ cap ∧ cap ≤ 9223372036854775807 ∧ FctA W0 b o l := by
        rcases HSl.out with ⟨e, _⟩ | ⟨_, b, o, cap, h1, h2, h3, h4⟩
        · rw [e] at hlt; exact absurd hlt (Nat.not_lt_zero _)
        · exact ⟨b, o, cap, h1, h2, h3, h4⟩
      injection hv with hv1 _ hv3
      subst hv1 hv3
      obtain ⟨k0, k1, k2, k3, k4⟩ := hT i hlt
      have HF := Lib.hid (find_take hlt hf)
      have HLt := Lib.hid hlt
      generalize l.getD i default = y at *
      obtain ⟨yk, yd, yx, yy, yp⟩ := y
      dsimp only at k0 k1 k2 k3 k4
      clear hT hf hlt
      have miss : ∀ (hq : isG k d ⟨yk, yd, yx, yy, yp⟩ = false), Hid ((l.take (i + 1)).find? (isG k d) = none) := fun hq => Lib.hid (HF.out.2 hq)
      by_cases q1 : yk = k
      · by_cases q2 : yd = d
        · have hfd := HF.out.1 (by simp [isG, q1, q2])
          rw [← HR.out] at hfd
          subst q1 q2 hfd
          clear HF HR HSl miss
          go_wp2_with fail
          exact bodyPost_ret (v := .tuple #[.agg #[.int .i64 yk, .int .i64 yd, .int .i64 yx, .int .i64 yy, .int .i64 yp], .bool true]) (by simp [results, Tryz.results48, go_sem, z0, z1, z2, z3, z4]) rfl ⟨Below.setCell (Below.setCell (Below.setCell (Below.setCell (Below.setCell HB.out (Nat.le_refl _) _) (Nat.le_refl _) _) (Nat.le_refl _) _) (Nat.le_refl _) _) (Nat.le_refl _) _, rfl⟩
        · have HM := miss (by simp [isG, q2])
          have q2' : (yd == d) = false := beq_false_of_ne q2
          subst q1
          clear HF miss
          go_wp2_with fail
          go_roundw
          case rel => exact ⟨i + 1, HLt.out, by go_num, HM.out, by trivial⟩
          case measure => have := HLt.out; simp [RowKit.intOf]; omega
      · have HM := miss (by simp [isG, q1])
        have q1' : (yk == k) = false := beq_false_of_ne q1
        clear HF miss
        go_wp2_with fail
        go_roundw
        case rel => exact ⟨i + 1, HLt.out, by go_num, HM.out, by trivial⟩
        case measure => have := HLt.out; simp [RowKit.intOf]; omega
    · have hie : i = l.length := by omega
      subst hie
      rw [List.take_length, ← HR.out] at hf
      subst hf
      have p1 : ¬ (l.length : Int) < (l.length : Int) := by omega
      clear HR HSl
      go_wp2_with fail
      exact bodyPost_ret (v := .tuple #[.agg #[.int .i64 0, .int .i64 0, .int .i64 0, .int .i64 0, .int .i64 0], .bool false]) (by simp [results, Tryz.results48, go_sem, z0, z1, z2, z3, z4]) rfl ⟨Below.setCell (Below.setCell (Below.setCell (Below.setCell (Below.setCell HB.out (Nat.le_refl _) _) (Nat.le_refl _) _) (Nat.le_refl _) _) (Nat.le_refl _) _) (Nat.le_refl _) _, rfl⟩

end Go.Proofs.YtjafbfepdmgjnaaGreatDoor

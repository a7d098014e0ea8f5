/-
  Flows and waits in order, and what comes of many: no program.
-/
import Derived.Test.YtgeneoamngfomaaGreatDoorLo
import Derived.Test.YtgeneoamngfomaaGreatDoorVlP
namespace Go.Proofs.YtgeneoamngfomaaGreatDoor
open Go.RowKit Go.Lib
set_option linter.unusedVariables false

structure Flw where
  d : Int
  c : Int
  n : Int
deriving DecidableEq
instance : Inhabited Flw := ⟨⟨0, 0, 0⟩⟩
structure Wat where
  d : Int
  h : Int
  k : Int
deriving DecidableEq
instance : Inhabited Wat := ⟨⟨0, 0, 0⟩⟩
def bfF (a b : Flw) : Prop := a.d < b.d ∨ (a.d = b.d ∧ (a.c < b.c ∨ (a.c = b.c ∧ a.n < b.n)))
def bfW (a b : Wat) : Prop := a.d < b.d ∨ (a.d = b.d ∧ (a.h < b.h ∨ (a.h = b.h ∧ a.k < b.k)))
instance (a b : Flw) : Decidable (bfF a b) := by unfold bfF; exact inferInstance
instance (a b : Wat) : Decidable (bfW a b) := by unfold bfW; exact inferInstance
theorem flw_ext {a b : Flw} (h1 : a.d = b.d) (h2 : a.c = b.c) (h3 : a.n = b.n) : a = b := by cases a; cases b; simp_all
theorem wat_ext {a b : Wat} (h1 : a.d = b.d) (h2 : a.h = b.h) (h3 : a.k = b.k) : a = b := by cases a; cases b; simp_all
theorem bfF_irr (a : Flw) : ¬ bfF a a := by unfold bfF; omega
theorem bfF_trans {a b c : Flw} (h : bfF a b) (h' : bfF b c) : bfF a c := by unfold bfF at *; omega
theorem bfF_tri (a b : Flw) : bfF a b ∨ a = b ∨ bfF b a := by
  by_cases h : bfF a b
  · exact .inl h
  · by_cases h' : bfF b a
    · exact .inr (.inr h')
    · refine .inr (.inl (flw_ext ?_ ?_ ?_)) <;> unfold bfF at * <;> omega
theorem bfW_irr (a : Wat) : ¬ bfW a a := by unfold bfW; omega
theorem bfW_trans {a b c : Wat} (h : bfW a b) (h' : bfW b c) : bfW a c := by unfold bfW at *; omega
theorem bfW_tri (a b : Wat) : bfW a b ∨ a = b ∨ bfW b a := by
  by_cases h : bfW a b
  · exact .inl h
  · by_cases h' : bfW b a
    · exact .inr (.inr h')
    · refine .inr (.inl (wat_ext ?_ ?_ ?_)) <;> unfold bfW at * <;> omega
theorem bfW_asym {a b : Wat} (h : bfW a b) : ¬ bfW b a := fun h' => bfW_irr a (bfW_trans h h')

/-- In order, also of some that are the same. -/
def SrF (l : List Flw) : Prop := l.Pairwise fun a b => ¬ bfF b a
/-- In order, each once. -/
def SrW (l : List Wat) : Prop := l.Pairwise bfW
theorem srF_uniq : ∀ {a b : List Flw}, SrF a → SrF b → a.Perm b → a = b
  | [], b, _, _, hp => (List.nil_perm.1 hp).symm
  | x :: a, [], _, _, hp => by have := hp.length_eq; simp at this
  | x :: a, y :: b, ha, hb, hp => by
    obtain ⟨h1, h2⟩ := List.pairwise_cons.1 ha
    obtain ⟨h3, h4⟩ := List.pairwise_cons.1 hb
    have e : x = y := by
      have hx : x ∈ y :: b := hp.mem_iff.1 (by simp)
      have hy : y ∈ x :: a := hp.mem_iff.2 (by simp)
      rcases List.mem_cons.1 hx with e | hx
      · exact e
      · rcases List.mem_cons.1 hy with e | hy
        · exact e.symm
        · rcases bfF_tri x y with h | h | h
          · exact absurd h (h3 x hx)
          · exact h
          · exact absurd h (h1 y hy)
    subst e
    rw [srF_uniq h2 h4 (List.Perm.cons_inv hp)]
theorem srW_uniq : ∀ {a b : List Wat}, SrW a → SrW b → (∀ x, x ∈ a ↔ x ∈ b) → a = b
  | [], [], _, _, _ => rfl
  | [], y :: b, _, _, h => by have := (h y).2 (by simp); cases this
  | x :: a, [], _, _, h => by have := (h x).1 (by simp); cases this
  | x :: a, y :: b, ha, hb, h => by
    obtain ⟨h1, h2⟩ := List.pairwise_cons.1 ha
    obtain ⟨h3, h4⟩ := List.pairwise_cons.1 hb
    have e : x = y := by
      have hx : x ∈ y :: b := (h x).1 (by simp)
      have hy : y ∈ x :: a := (h y).2 (by simp)
      rcases List.mem_cons.1 hx with e | hx
      · exact e
      · rcases List.mem_cons.1 hy with e | hy
        · exact e.symm
        · exact absurd (h3 x hx) (bfW_asym (h1 y hy))
    subst e
    rw [srW_uniq h2 h4 fun z => ?_]
    constructor
    · intro hz
      rcases List.mem_cons.1 ((h z).1 (by simp [hz])) with e | hz'
      · subst e; exact absurd (h1 z hz) (bfW_irr z)
      · exact hz'
    · intro hz
      rcases List.mem_cons.1 ((h z).2 (by simp [hz])) with e | hz'
      · subst e; exact absurd (h3 z hz) (bfW_irr z)
      · exact hz'

/-- How many flows stand ahead of one that is put. -/
def posF (l : List Flw) (x : Flw) : Nat := (l.takeWhile fun a => !decide (bfF x a)).length
def putF (l : List Flw) (x : Flw) : List Flw := l.take (posF l x) ++ x :: l.drop (posF l x)
/-- Waits with one more, each once. -/
def posW (l : List Wat) (x : Wat) : Nat := (l.takeWhile fun a => decide (bfW a x)).length
def putW (l : List Wat) (x : Wat) : List Wat := if (l.drop (posW l x)).head? = some x then l else l.take (posW l x) ++ x :: l.drop (posW l x)
/-- What comes of a contract: flows and waits, in no order; none: something does not fit. -/
abbrev Otc := Option (List Flw × List Wat)
def cat : Otc → Otc → Otc
  | some (a, b), some (c, d) => some (a ++ c, b ++ d)
  | some _, none => none
  | none, _ => none
def nul : Otc := some ([], [])
def cats : List Otc → Otc
  | [] => nul
  | x :: l => cat x (cats l)
/-- The same, but for the order. -/
def Eqv : Otc → Otc → Prop
  | none, none => True
  | some (a, b), some (c, d) => a.Perm c ∧ b.Perm d
  | none, some _ => False
  | some _, none => False
theorem Eqv.refl (x : Otc) : Eqv x x := by
  match x with
  | none => trivial
  | some (a, b) => exact ⟨List.Perm.refl _, List.Perm.refl _⟩
theorem Eqv.symm {x y : Otc} (h : Eqv x y) : Eqv y x := by
  match x, y, h with
  | none, none, _ => trivial
  | some (a, b), some (c, d), h => exact ⟨h.1.symm, h.2.symm⟩
theorem Eqv.trans {x y z : Otc} (h : Eqv x y) (h' : Eqv y z) : Eqv x z := by
  match x, y, z, h, h' with
  | none, none, none, _, _ => trivial
  | some (a, b), some (c, d), some (e, f), h, h' => exact ⟨h.1.trans h'.1, h.2.trans h'.2⟩
theorem Eqv.none_iff {x y : Otc} (h : Eqv x y) : x = none ↔ y = none := by
  match x, y, h with
  | none, none, _ => simp
  | some (a, b), some (c, d), h => simp
theorem cat_nul (x : Otc) : cat x nul = x := by
  match x with
  | none => rfl
  | some (a, b) => simp [cat, nul]
theorem nul_cat (x : Otc) : cat nul x = x := by
  match x with
  | none => rfl
  | some (a, b) => simp [cat, nul]
theorem cat_assoc (x y z : Otc) : cat (cat x y) z = cat x (cat y z) := by
  match x, y, z with
  | none, _, _ => rfl
  | some (a, b), none, _ => rfl
  | some (a, b), some (c, d), none => rfl
  | some (a, b), some (c, d), some (e, f) => simp [cat, List.append_assoc]
theorem cat_comm (x y : Otc) : Eqv (cat x y) (cat y x) := by
  match x, y with
  | none, none => trivial
  | none, some (a, b) => trivial
  | some (a, b), none => trivial
  | some (a, b), some (c, d) => exact ⟨List.perm_append_comm, List.perm_append_comm⟩
theorem Eqv.cat {x x' y y' : Otc} (h : Eqv x x') (h' : Eqv y y') : Eqv (cat x y) (cat x' y') := by
  match x, x', y, y', h, h' with
  | none, none, _, _, _, _ => exact trivial
  | some (a, b), some (c, d), none, none, _, _ => exact trivial
  | some (a, b), some (c, d), some (e, f), some (g, i), h, h' => exact ⟨h.1.append h'.1, h.2.append h'.2⟩
theorem cats_app (l m : List Otc) : cats (l ++ m) = cat (cats l) (cats m) := by
  induction l with
  | nil => rw [List.nil_append]; exact (nul_cat _).symm
  | cons x l ih => rw [List.cons_append, cats, cats, ih, cat_assoc]
theorem cats_map_nul {α : Type} (f : α → Otc) (p : α → Bool) (h : ∀ a, p a = false → f a = nul) : ∀ l : List α, cats ((l.filter p).map f) = cats (l.map f)
  | [] => rfl
  | a :: l => by
    by_cases ha : p a = true
    · rw [List.filter_cons_of_pos ha, List.map_cons, List.map_cons, cats, cats, cats_map_nul f p h l]
    · rw [List.filter_cons_of_neg ha, List.map_cons, cats, h a (by simpa using ha), nul_cat, cats_map_nul f p h l]
/-- One step of a run: what came so far, the one that is done, the rest, and what comes in its stead. -/
theorem run_one {fl : List Flw} {ws : List Wat} {x : Otc} {fl' : List Flw} {ws' : List Wat} {ts rest : List Otc} (hx : x = cat (some (fl', ws')) (cats ts)) {z : Otc}
    (h : Eqv (cat (some (fl, ws)) (cats (x :: rest))) z) : Eqv (cat (some (fl ++ fl', ws ++ ws')) (cats (rest ++ ts))) z := by
  refine Eqv.trans ?_ h
  subst hx
  have e : (some (fl ++ fl', ws ++ ws') : Otc) = cat (some (fl, ws)) (some (fl', ws')) := rfl
  rw [e, cats_app, cats, cat_assoc]
  refine Eqv.cat (Eqv.refl _) ?_
  rw [cat_assoc]
  exact Eqv.cat (Eqv.refl _) (cat_comm _ _)

end Go.Proofs.YtgeneoamngfomaaGreatDoor

namespace Go.Proofs.YtgeneoamngfomaaGreatDoor
open Go.RowKit Go.Lib
set_option linter.unusedVariables false

/-- What is known: fixings by day and key, choices by key and day (0: none), and the first day of a choice 1. -/
structure Env where
  fx : Int → Int → Option Rat
  ch : Int → Int → Int
  fs : Int → Int → Int → Option Int
structure Env.Ok (E : Env) : Prop where
  fits : ∀ d k r, E.fx d k = some r → fitsR r = true
  pick : ∀ k d, E.ch k d = 0 ∨ E.ch k d = 1 ∨ E.ch k d = 2
  first : ∀ k f u d, E.fs k f u = some d → f ≤ d ∧ d ≤ u
/-- A contract at a place, acquired at a day, times a factor. -/
structure Td where
  p : Nat
  day : Int
  q : Rat
instance : Inhabited Td := ⟨⟨0, 0, 0⟩⟩
def kid (t : List Nd) (p i : Nat) : Nat := plA t (p + 1) i
def rnd (q : Rat) : Int := md q.num 1 ((q.den : Nat) : Int)
noncomputable def askW (t : List Nd) (E : Env) (day : Int) (p : Nat) : List Wat := ((kyU t p).filter fun k => (E.fx day k).isNone).map fun k => ⟨day, 0, k⟩
/-- What is done of a place: none: something does not fit; else what is acquired in its stead, flows, and waits. -/
noncomputable def stp (t : List Nd) (E : Env) (tu : Int) (x : Td) : Option (List Td × List Flw × List Wat) :=
  if opA t x.p = 10 then some ([], if rnd x.q = 0 then [] else [⟨x.day, aA t x.p, rnd x.q⟩], [])
  else if opA t x.p = 11 then some ([⟨kid t x.p 0, x.day, -x.q⟩], [], [])
  else if opA t x.p = 12 then some ([⟨kid t x.p 0, x.day, x.q⟩, ⟨kid t x.p 1, x.day, x.q⟩], [], [])
  else if opA t x.p = 13 then
    match vlA t (E.fx x.day) (kid t x.p 0) with
    | none => none
    | some none => some ([], [], askW t E x.day (kid t x.p 0))
    | some (some v) => if fitsR (x.q * v) = true then some ([⟨kid t x.p 1, x.day, x.q * v⟩], [], []) else none
  else if opA t x.p = 14 then some (if x.day ≤ aA t x.p then [⟨kid t x.p 0, aA t x.p, x.q⟩] else [], [], [])
  else if opA t x.p = 15 then
    match vlA t (E.fx x.day) (kid t x.p 0), vlA t (E.fx x.day) (kid t x.p 1) with
    | none, _ => none
    | some _, none => none
    | some (some v), some (some u) => some ([⟨kid t x.p (if v < u then 2 else 3), x.day, x.q⟩], [], [])
    | some none, some _ => some ([], [], askW t E x.day (kid t x.p 0) ++ askW t E x.day (kid t x.p 1))
    | some (some _), some none => some ([], [], askW t E x.day (kid t x.p 0) ++ askW t E x.day (kid t x.p 1))
  else if opA t x.p = 16 then
    if E.ch (aA t x.p) x.day = 1 then some ([⟨kid t x.p 0, x.day, x.q⟩], [], [])
    else if E.ch (aA t x.p) x.day = 2 then some ([⟨kid t x.p 1, x.day, x.q⟩], [], [])
    else some ([], [], [⟨x.day, 1, aA t x.p⟩])
  else if opA t x.p = 17 then
    match E.fs (aA t x.p) x.day (min (bA t x.p) tu) with
    | some d => some ([⟨kid t x.p 0, d, x.q⟩], [], [])
    | none => some ([], [], [])
  else some ([], [], [])

theorem stp_one {t : List Nd} {E : Env} {tu : Int} {x : Td} (c : opA t x.p = 10) : stp t E tu x = some ([], if rnd x.q = 0 then [] else [⟨x.day, aA t x.p, rnd x.q⟩], []) := by unfold stp; rw [if_pos c]
theorem stp_give {t : List Nd} {E : Env} {tu : Int} {x : Td} (c : opA t x.p = 11) : stp t E tu x = some ([⟨kid t x.p 0, x.day, -x.q⟩], [], []) := by unfold stp; rw [if_neg (by omega), if_pos c]
theorem stp_and {t : List Nd} {E : Env} {tu : Int} {x : Td} (c : opA t x.p = 12) : stp t E tu x = some ([⟨kid t x.p 0, x.day, x.q⟩, ⟨kid t x.p 1, x.day, x.q⟩], [], []) := by unfold stp; rw [if_neg (by omega), if_neg (by omega), if_pos c]
theorem stp_scale {t : List Nd} {E : Env} {tu : Int} {x : Td} (c : opA t x.p = 13) : stp t E tu x = match vlA t (E.fx x.day) (kid t x.p 0) with
    | none => none
    | some none => some ([], [], askW t E x.day (kid t x.p 0))
    | some (some v) => if fitsR (x.q * v) = true then some ([⟨kid t x.p 1, x.day, x.q * v⟩], [], []) else none := by unfold stp; rw [if_neg (by omega), if_neg (by omega), if_neg (by omega), if_pos c]
theorem stp_when {t : List Nd} {E : Env} {tu : Int} {x : Td} (c : opA t x.p = 14) : stp t E tu x = some (if x.day ≤ aA t x.p then [⟨kid t x.p 0, aA t x.p, x.q⟩] else [], [], []) := by unfold stp; rw [if_neg (by omega), if_neg (by omega), if_neg (by omega), if_neg (by omega), if_pos c]
theorem stp_cond {t : List Nd} {E : Env} {tu : Int} {x : Td} (c : opA t x.p = 15) : stp t E tu x = match vlA t (E.fx x.day) (kid t x.p 0), vlA t (E.fx x.day) (kid t x.p 1) with
    | none, _ => none
    | some _, none => none
    | some (some v), some (some u) => some ([⟨kid t x.p (if v < u then 2 else 3), x.day, x.q⟩], [], [])
    | some none, some _ => some ([], [], askW t E x.day (kid t x.p 0) ++ askW t E x.day (kid t x.p 1))
    | some (some _), some none => some ([], [], askW t E x.day (kid t x.p 0) ++ askW t E x.day (kid t x.p 1)) := by unfold stp; rw [if_neg (by omega), if_neg (by omega), if_neg (by omega), if_neg (by omega), if_neg (by omega), if_pos c]
theorem stp_or {t : List Nd} {E : Env} {tu : Int} {x : Td} (c : opA t x.p = 16) : stp t E tu x = if E.ch (aA t x.p) x.day = 1 then some ([⟨kid t x.p 0, x.day, x.q⟩], [], [])
    else if E.ch (aA t x.p) x.day = 2 then some ([⟨kid t x.p 1, x.day, x.q⟩], [], [])
    else some ([], [], [⟨x.day, 1, aA t x.p⟩]) := by unfold stp; rw [if_neg (by omega), if_neg (by omega), if_neg (by omega), if_neg (by omega), if_neg (by omega), if_neg (by omega), if_pos c]
theorem stp_any {t : List Nd} {E : Env} {tu : Int} {x : Td} (c : opA t x.p = 17) : stp t E tu x = match E.fs (aA t x.p) x.day (min (bA t x.p) tu) with
    | some d => some ([⟨kid t x.p 0, d, x.q⟩], [], [])
    | none => some ([], [], []) := by unfold stp; rw [if_neg (by omega), if_neg (by omega), if_neg (by omega), if_neg (by omega), if_neg (by omega), if_neg (by omega), if_neg (by omega), if_pos c]
theorem stp_zero {t : List Nd} {E : Env} {tu : Int} {x : Td} (c : ¬ (10 ≤ opA t x.p ∧ opA t x.p ≤ 17)) : stp t E tu x = some ([], [], []) := by unfold stp; rw [if_neg (by omega), if_neg (by omega), if_neg (by omega), if_neg (by omega), if_neg (by omega), if_neg (by omega), if_neg (by omega), if_neg (by omega)]

/-- A contract stands there. -/
structure CtA (t : List Nd) (p : Nat) : Prop where
  lt : p < t.length
  mc : mkO (opA t p) = 2
theorem two_all : ∀ k < 18, mkT.getD k 0 = 2 → 9 ≤ k ∧ k ≤ 17 := by decide
theorem ct_op {op : Int} (h : mkO op = 2) : 9 ≤ op ∧ op ≤ 17 := by
  obtain ⟨h1, h2⟩ := two_all _ (ixO_lt op) h
  have e := op_ix (op := op) rfl (by omega)
  omega
theorem ok_tm {t : List Nd} (h : (ofK t).2 = 0) {p : Nat} (hp : p < t.length) : TmA t p := (ofK_zero h).2.1.all p hp
theorem kid_any {t : List Nd} (h : (ofK t).2 = 0) {p i : Nat} (hp : p < t.length) (hi : i < cnO (opA t p)) : kid t p i < t.length ∧ mkO (opA t (kid t p i)) = kdC (ixO (opA t p)) i ∧ p < kid t p i ∧ kid t p i + szA t (kid t p i) ≤ p + szA t p := by
  obtain ⟨k1, k2, k3⟩ := (ok_tm h hp).kid hi
  exact ⟨k1.lt, (ofK_zero h).2.2.2.1 p hp i hi, k2, k3⟩
theorem kid_ct {t : List Nd} (h : (ofK t).2 = 0) {p i : Nat} (hp : p < t.length) (hi : i < cnO (opA t p)) (hk : kdC (ixO (opA t p)) i = 2) : CtA t (kid t p i) := ⟨(kid_any h hp hi).1, (kid_any h hp hi).2.1.trans hk⟩
def szs (t : List Nd) (l : List Td) : Nat := (l.map fun y => szA t y.p).sum
theorem szs_app (t : List Nd) (l m : List Td) : szs t (l ++ m) = szs t l + szs t m := by unfold szs; rw [List.map_append, List.sum_append]
theorem szs_one (t : List Nd) (x : Td) : szs t [x] = szA t x.p := by simp [szs]
theorem szs_two (t : List Nd) (x y : Td) : szs t [x, y] = szA t x.p + szA t y.p := by simp [szs]
theorem szs_nil (t : List Nd) : szs t [] = 0 := rfl
theorem szs_cons (t : List Nd) (x : Td) (l : List Td) : szs t (x :: l) = szA t x.p + szs t l := by simp [szs]
theorem szs_filter (t : List Nd) (p : Td → Bool) : ∀ l : List Td, szs t (l.filter p) ≤ szs t l
  | [] => Nat.le_refl _
  | a :: l => by
    have := szs_filter t p l
    by_cases ha : p a = true
    · rw [List.filter_cons_of_pos ha, szs_cons, szs_cons]; omega
    · rw [List.filter_cons_of_neg ha, szs_cons]; omega
theorem fld_day {t : List Nd} (h : ∀ p, p < t.length → fldO (t.getD p default) = true) {i : Nat} (hi : i < t.length) (ho : opA t i = 14) : 0 ≤ aA t i ∧ aA t i ≤ 73048 := by
  have hf := h i hi
  unfold fldO at hf
  have h1 : fldA (ixO (t.getD i default).op) (t.getD i default) = true := by
    rw [Bool.and_eq_true, Bool.and_eq_true] at hf; exact hf.1.1
  have h2 : (t.getD i default).op = opA t i := rfl
  unfold fldA at h1
  rw [h2, decide_eq_true_eq, ho] at h1
  have e : maN (ixO 14) = 73048 := by decide
  rw [e] at h1
  unfold aA
  omega
/-- What is acquired in the stead of a place. -/
structure Kids (t : List Nd) (x : Td) (ts : List Td) : Prop where
  ct : ∀ y ∈ ts, CtA t y.p
  sz : szs t ts + 1 ≤ szA t x.p
  day : ∀ y ∈ ts, x.day ≤ y.day
  top : x.day ≤ 73048 → ∀ y ∈ ts, y.day ≤ 73048
  fit : fitsR x.q = true → ∀ y ∈ ts, fitsR y.q = true
theorem Kids.none {t : List Nd} {x : Td} (h : 1 ≤ szA t x.p) : Kids t x [] := ⟨fun y h => (by cases h), by rw [szs_nil]; omega, fun y h => (by cases h), fun _ y h => (by cases h), fun _ y h => (by cases h)⟩
theorem Kids.one {t : List Nd} (h : (ofK t).2 = 0) {x : Td} (hx : CtA t x.p) {i : Nat} {d : Int} {r : Rat} (hi : i < cnO (opA t x.p)) (hk : kdC (ixO (opA t x.p)) i = 2) (hd : x.day ≤ d) (ht : x.day ≤ 73048 → d ≤ 73048) (hf : fitsR x.q = true → fitsR r = true) : Kids t x [⟨kid t x.p i, d, r⟩] := by
  have k := kid_any h hx.lt hi
  refine ⟨fun y hy => ?_, ?_, fun y hy => ?_, fun h0 y hy => ?_, fun h0 y hy => ?_⟩
  · obtain rfl := List.mem_singleton.1 hy
    exact kid_ct h hx.lt hi hk
  · rw [szs_one]; dsimp only; omega
  · obtain rfl := List.mem_singleton.1 hy; exact hd
  · obtain rfl := List.mem_singleton.1 hy; exact ht h0
  · obtain rfl := List.mem_singleton.1 hy; exact hf h0
theorem ct_pos {t : List Nd} (h : (ofK t).2 = 0) {p : Nat} (hx : CtA t p) : 1 ≤ szA t p := (ok_tm h hx.lt).bd.1
theorem stp_kids {t : List Nd} (h : (ofK t).2 = 0) {E : Env} (hE : E.Ok) {tu : Int} (hto : tu ≤ 73048) {x : Td} (hx : CtA t x.p) {ts : List Td} {fl : List Flw} {ws : List Wat} (hs : stp t E tu x = some (ts, fl, ws)) : Kids t x ts := by
  have h1 := ct_pos h hx
  have hN := Kids.none h1
  have key : ∀ {a b c}, (some (a, b, c) : Option (List Td × List Flw × List Wat)) = some (ts, fl, ws) → Kids t x a → Kids t x ts := fun e hk => by
    injection e with e; injection e with e _; subst e; exact hk
  unfold stp at hs
  by_cases c : opA t x.p = 10
  · rw [if_pos c] at hs; exact key hs hN
  rw [if_neg c] at hs; clear c
  by_cases c : opA t x.p = 11
  · rw [if_pos c] at hs
    exact key hs (Kids.one h hx (by rw [c]; decide) (by rw [c]; decide) (Int.le_refl _) (fun h => h) fits_neg)
  rw [if_neg c] at hs; clear c
  by_cases c : opA t x.p = 12
  · rw [if_pos c] at hs
    refine key hs ?_
    have a := Kids.one h hx (i := 0) (d := x.day) (r := x.q) (by rw [c]; decide) (by rw [c]; decide) (Int.le_refl _) (fun h => h) (fun h => h)
    have b := Kids.one h hx (i := 1) (d := x.day) (r := x.q) (by rw [c]; decide) (by rw [c]; decide) (Int.le_refl _) (fun h => h) (fun h => h)
    have k1 := kid_any h hx.lt (i := 1) (by rw [c]; decide)
    have e : kid t x.p 1 = kid t x.p 0 + szA t (kid t x.p 0) := rfl
    have e0 : kid t x.p 0 = x.p + 1 := rfl
    refine ⟨fun y hy => ?_, ?_, fun y hy => ?_, fun h0 y hy => ?_, fun h0 y hy => ?_⟩
    · rcases List.mem_cons.1 hy with rfl | hy
      · exact a.ct _ (by simp)
      · exact b.ct _ hy
    · rw [szs_two]; dsimp only; omega
    · rcases List.mem_cons.1 hy with rfl | hy
      · exact a.day _ (by simp)
      · exact b.day _ hy
    · rcases List.mem_cons.1 hy with rfl | hy
      · exact a.top h0 _ (by simp)
      · exact b.top h0 _ hy
    · rcases List.mem_cons.1 hy with rfl | hy
      · exact a.fit h0 _ (by simp)
      · exact b.fit h0 _ hy
  rw [if_neg c] at hs; clear c
  by_cases c : opA t x.p = 13
  · rw [if_pos c] at hs
    cases hv : vlA t (E.fx x.day) (kid t x.p 0) with
    | none => rw [hv] at hs; cases hs
    | some v =>
      rw [hv] at hs
      cases v with
      | none => exact key hs hN
      | some v =>
        dsimp only at hs
        by_cases f : fitsR (x.q * v) = true
        · rw [if_pos f] at hs
          exact key hs (Kids.one h hx (by rw [c]; decide) (by rw [c]; decide) (Int.le_refl _) (fun h => h) (fun _ => f))
        · rw [if_neg f] at hs; cases hs
  rw [if_neg c] at hs; clear c
  by_cases c : opA t x.p = 14
  · rw [if_pos c] at hs
    refine key hs ?_
    by_cases f : x.day ≤ aA t x.p
    · rw [if_pos f]
      have ha : aA t x.p ≤ 73048 := (fld_day (ofK_zero h).2.2.1 hx.lt c).2
      exact Kids.one h hx (by rw [c]; decide) (by rw [c]; decide) f (fun _ => ha) (fun h => h)
    · rw [if_neg f]; exact hN
  rw [if_neg c] at hs; clear c
  by_cases c : opA t x.p = 15
  · rw [if_pos c] at hs
    cases hv : vlA t (E.fx x.day) (kid t x.p 0) with
    | none => rw [hv] at hs; cases hs
    | some v =>
      cases hu : vlA t (E.fx x.day) (kid t x.p 1) with
      | none => rw [hv, hu] at hs; cases hs
      | some u =>
        rw [hv, hu] at hs
        cases v with
        | none =>
          cases u with
          | none => exact key hs hN
          | some u => exact key hs hN
        | some v =>
          cases u with
          | none => exact key hs hN
          | some u =>
            dsimp only at hs
            refine key hs ?_
            by_cases f : v < u
            · rw [if_pos f]
              exact Kids.one h hx (by rw [c]; decide) (by rw [c]; decide) (Int.le_refl _) (fun h => h) (fun h => h)
            · rw [if_neg f]
              exact Kids.one h hx (by rw [c]; decide) (by rw [c]; decide) (Int.le_refl _) (fun h => h) (fun h => h)
  rw [if_neg c] at hs; clear c
  by_cases c : opA t x.p = 16
  · rw [if_pos c] at hs
    by_cases f : E.ch (aA t x.p) x.day = 1
    · rw [if_pos f] at hs
      exact key hs (Kids.one h hx (by rw [c]; decide) (by rw [c]; decide) (Int.le_refl _) (fun h => h) (fun h => h))
    · rw [if_neg f] at hs
      by_cases f : E.ch (aA t x.p) x.day = 2
      · rw [if_pos f] at hs
        exact key hs (Kids.one h hx (by rw [c]; decide) (by rw [c]; decide) (Int.le_refl _) (fun h => h) (fun h => h))
      · rw [if_neg f] at hs; exact key hs hN
  rw [if_neg c] at hs; clear c
  by_cases c : opA t x.p = 17
  · rw [if_pos c] at hs
    cases hv : E.fs (aA t x.p) x.day (min (bA t x.p) tu) with
    | none => rw [hv] at hs; exact key hs hN
    | some d =>
      rw [hv] at hs
      obtain ⟨f1, f2⟩ := hE.first _ _ _ _ hv
      exact key hs (Kids.one h hx (by rw [c]; decide) (by rw [c]; decide) f1 (fun _ => by omega) (fun h => h))
  rw [if_neg c] at hs
  exact key hs hN

/-- What comes of a contract. -/
noncomputable def den (t : List Nd) (E : Env) (tu : Int) : Nat → Td → Otc
  | 0, _ => nul
  | f + 1, x => if tu < x.day then nul else match stp t E tu x with
    | none => none
    | some r => cat (some (r.2.1, r.2.2)) (cats (r.1.map (den t E tu f)))
noncomputable def dn (t : List Nd) (E : Env) (tu : Int) (x : Td) : Otc := den t E tu (szA t x.p) x
theorem szs_mem {t : List Nd} : ∀ {l : List Td} {y : Td}, y ∈ l → szA t y.p ≤ szs t l
  | a :: l, y, h => by
    rw [szs_cons]
    rcases List.mem_cons.1 h with rfl | h
    · omega
    · have := szs_mem (t := t) h; omega
theorem den_eq {t : List Nd} (h : (ofK t).2 = 0) {E : Env} (hE : E.Ok) {tu : Int} (hto : tu ≤ 73048) : ∀ (f : Nat) (x : Td), CtA t x.p → szA t x.p ≤ f → den t E tu f x = dn t E tu x
  | 0, x, hx, hf => by have := ct_pos h hx; omega
  | f + 1, x, hx, hf => by
    obtain ⟨g, hg⟩ : ∃ g, szA t x.p = g + 1 := ⟨szA t x.p - 1, by have := ct_pos h hx; omega⟩
    unfold dn
    rw [hg, den, den]
    by_cases hl : tu < x.day
    · rw [if_pos hl, if_pos hl]
    · rw [if_neg hl, if_neg hl]
      cases hs : stp t E tu x with
      | none => rfl
      | some r =>
        obtain ⟨ts, fl, ws⟩ := r
        have hk := stp_kids h hE hto hx hs
        dsimp only
        have e : ts.map (den t E tu f) = ts.map (den t E tu g) := List.map_congr_left fun y hy => by
          have := szs_mem (t := t) hy
          have := hk.sz
          rw [den_eq h hE hto f y (hk.ct y hy) (by omega), den_eq h hE hto g y (hk.ct y hy) (by omega)]
        rw [e]
termination_by f _ => f
decreasing_by all_goals omega
theorem dn_late {t : List Nd} {E : Env} {tu : Int} {x : Td} (hl : tu < x.day) : dn t E tu x = nul := by
  unfold dn
  cases szA t x.p with
  | zero => rfl
  | succ n => rw [den, if_pos hl]
theorem dn_eq {t : List Nd} (h : (ofK t).2 = 0) {E : Env} (hE : E.Ok) {tu : Int} (hto : tu ≤ 73048) {x : Td} (hx : CtA t x.p) (hl : ¬ tu < x.day) : dn t E tu x = match stp t E tu x with
    | none => none
    | some r => cat (some (r.2.1, r.2.2)) (cats (r.1.map (dn t E tu))) := by
  obtain ⟨g, hg⟩ : ∃ g, szA t x.p = g + 1 := ⟨szA t x.p - 1, by have := ct_pos h hx; omega⟩
  show den t E tu (szA t x.p) x = _
  rw [hg, den, if_neg hl]
  cases hs : stp t E tu x with
  | none => rfl
  | some r =>
    obtain ⟨ts, fl, ws⟩ := r
    have hk := stp_kids h hE hto hx hs
    dsimp only
    have e : ts.map (den t E tu g) = ts.map (dn t E tu) := List.map_congr_left fun y hy => by
      have := szs_mem (t := t) hy
      have := hk.sz
      exact den_eq h hE hto g y (hk.ct y hy) (by omega)
    rw [e]

end Go.Proofs.YtgeneoamngfomaaGreatDoor

namespace Go.Proofs.YtgeneoamngfomaaGreatDoor
open Go.RowKit Go.Lib
set_option linter.unusedVariables false
set_option linter.unusedSimpArgs false

theorem cat_some {x y : Otc} {fl : List Flw} {ws : List Wat} (h : cat x y = some (fl, ws)) : ∃ a b c d, x = some (a, b) ∧ y = some (c, d) ∧ fl = a ++ c ∧ ws = b ++ d := by
  match x, y, h with
  | some (a, b), some (c, d), h =>
    injection h with h; injection h with h1 h2
    exact ⟨a, b, c, d, rfl, rfl, h1.symm, h2.symm⟩
theorem dn_ind {t : List Nd} {P : Td → Prop} (hP : ∀ x, CtA t x.p → (∀ y, CtA t y.p → szA t y.p < szA t x.p → P y) → P x) : ∀ (n : Nat) (x : Td), szA t x.p ≤ n → CtA t x.p → P x
  | 0, x, hn, hx => hP x hx fun y _ hy => by omega
  | n + 1, x, hn, hx => hP x hx fun y hc hy => dn_ind hP n y (by omega) hc
theorem dn_step {t : List Nd} (h : (ofK t).2 = 0) {E : Env} (hE : E.Ok) {tu : Int} (hto : tu ≤ 73048) {x : Td} (hx : CtA t x.p) (hl : ¬ tu < x.day) {fl : List Flw} {ws : List Wat} (hd : dn t E tu x = some (fl, ws)) :
    ∃ ts fl0 ws0 fl1 ws1, stp t E tu x = some (ts, fl0, ws0) ∧ cats (ts.map (dn t E tu)) = some (fl1, ws1) ∧ fl = fl0 ++ fl1 ∧ ws = ws0 ++ ws1 := by
  rw [dn_eq h hE hto hx hl] at hd
  cases hs : stp t E tu x with
  | none => rw [hs] at hd; cases hd
  | some r =>
    rw [hs] at hd
    obtain ⟨ts, fl0, ws0⟩ := r
    obtain ⟨a, b, c, d, e1, e2, e3, e4⟩ := cat_some hd
    injection e1 with e1; injection e1 with e1 e5
    dsimp only at e1 e5
    subst e1 e5
    exact ⟨ts, _, _, c, d, rfl, e2, e3, e4⟩
theorem cats_all {α : Type} {f : α → Otc} {Q : List Flw → List Wat → Prop} (h0 : Q [] []) (hc : ∀ a b c d, Q a b → Q c d → Q (a ++ c) (b ++ d)) : ∀ (ts : List α), (∀ y ∈ ts, ∀ a b, f y = some (a, b) → Q a b) → ∀ fl ws, cats (ts.map f) = some (fl, ws) → Q fl ws
  | [], _, fl, ws, h => by
    injection h with h; injection h with h1 h2
    subst h1 h2; exact h0
  | y :: ts, hq, fl, ws, h => by
    obtain ⟨a, b, c, d, e1, e2, rfl, rfl⟩ := cat_some h
    exact hc _ _ _ _ (hq y (by simp) _ _ e1) (cats_all h0 hc ts (fun z hz => hq z (by simp [hz])) _ _ e2)
theorem stp_flows {t : List Nd} {E : Env} {tu : Int} {x : Td} {ts : List Td} {fl : List Flw} {ws : List Wat} (hs : stp t E tu x = some (ts, fl, ws)) : fl = [] ∨ ∃ c n, fl = [⟨x.day, c, n⟩] ∧ n ≠ 0 := by
  have key : ∀ {a b c}, (some (a, b, c) : Option (List Td × List Flw × List Wat)) = some (ts, fl, ws) → b = [] → fl = [] ∨ ∃ c n, fl = [⟨x.day, c, n⟩] ∧ n ≠ 0 := fun e hb => by
    injection e with e; injection e with _ e; injection e with e _; subst e; exact .inl hb
  by_cases c : opA t x.p = 10
  · rw [stp_one c] at hs
    injection hs with e; injection e with _ e; injection e with e _
    by_cases f : rnd x.q = 0
    · rw [if_pos f] at e; exact .inl e.symm
    · rw [if_neg f] at e; exact .inr ⟨_, _, e.symm, f⟩
  by_cases c : opA t x.p = 11
  · rw [stp_give c] at hs; exact key hs rfl
  by_cases c : opA t x.p = 12
  · rw [stp_and c] at hs; exact key hs rfl
  by_cases c : opA t x.p = 13
  · rw [stp_scale c] at hs
    cases hv : vlA t (E.fx x.day) (kid t x.p 0) with
    | none => rw [hv] at hs; cases hs
    | some v =>
      rw [hv] at hs
      cases v with
      | none => exact key hs rfl
      | some v =>
        dsimp only at hs
        by_cases f : fitsR (x.q * v) = true
        · rw [if_pos f] at hs; exact key hs rfl
        · rw [if_neg f] at hs; cases hs
  by_cases c : opA t x.p = 14
  · rw [stp_when c] at hs; exact key hs rfl
  by_cases c : opA t x.p = 15
  · rw [stp_cond c] at hs
    cases hv : vlA t (E.fx x.day) (kid t x.p 0) with
    | none => rw [hv] at hs; cases hs
    | some v =>
      cases hu : vlA t (E.fx x.day) (kid t x.p 1) with
      | none => rw [hv, hu] at hs; cases hs
      | some u =>
        rw [hv, hu] at hs
        cases v with
        | none =>
          cases u with
          | none => exact key hs rfl
          | some u => exact key hs rfl
        | some v =>
          cases u with
          | none => exact key hs rfl
          | some u => exact key hs rfl
  by_cases c : opA t x.p = 16
  · rw [stp_or c] at hs
    by_cases f : E.ch (aA t x.p) x.day = 1
    · rw [if_pos f] at hs; exact key hs rfl
    · rw [if_neg f] at hs
      by_cases f : E.ch (aA t x.p) x.day = 2
      · rw [if_pos f] at hs; exact key hs rfl
      · rw [if_neg f] at hs; exact key hs rfl
  by_cases c : opA t x.p = 17
  · rw [stp_any c] at hs
    cases hv : E.fs (aA t x.p) x.day (min (bA t x.p) tu) with
    | none => rw [hv] at hs; exact key hs rfl
    | some d => rw [hv] at hs; exact key hs rfl
  rw [stp_zero (by omega)] at hs
  exact key hs rfl
end Go.Proofs.YtgeneoamngfomaaGreatDoor

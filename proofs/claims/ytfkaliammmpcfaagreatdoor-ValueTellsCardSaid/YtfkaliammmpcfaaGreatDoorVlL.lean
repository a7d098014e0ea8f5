/-
  Package value: what numbers put together are (no program).
-/
import Derived.Test.YtfkaliammmpcfaaGreatDoorVlK
namespace Go.Proofs.YtfkaliammmpcfaaGreatDoor
open Go.RowKit Go.Lib Go.Shelf Go.Maps
set_option linter.unusedVariables false
set_option linter.unusedSimpArgs false

theorem at_eq {t a : List Nd} {l : List Fct} {day : Int} (ht : wrN t 0 = 0) (ha : wrN a 0 = 0) (hv : vlA t (fxL l day) 0 = vlA a (fxL l day) 0) : atE t l 0 day = atE a l 0 day ∧ atV t l 0 day = atV a l 0 day := by
  unfold atE atV
  rw [ht, ha]
  repeat rw [if_neg (show ¬ (0 : Int) ≠ 0 by decide)]
  rw [show (0 : Int).toNat = 0 from rfl, hv]
  exact ⟨rfl, rfl⟩
/-- What is known of a right number fits. -/
theorem at_fits {a : List Nd} {l : List Fct} (hbd : BdT a) (hO : OkL l) (ha : wrN a 0 = 0) (day : Int) {r : Rat} (h : vlA a (fxL l day) 0 = some (some r)) : fitsR r = true := by
  obtain ⟨a1, a2, a3⟩ := num_nm ha
  refine vl_fits (fun q hq e => num_ok a1 hbd hq e) (fun k r hr => ?_) (szA a 0) 0 (Nat.le_refl _) (num_at a1 a2 a3).1 r h
  unfold fxL at hr
  split at hr
  · rename_i hg
    injection hr with hr
    rw [← hr]; exact fitsR_ok (hO.get k day hg)
  · cases hr
/-- A number by itself. -/
def ndN (n d : Int) : Nd := ⟨1, 0, 0, n, d⟩
theorem leaf_of {n d : Int} (hf : fldO (ndN n d) = true) : wrN [ndN n d] 0 = 0 ∧ dpA [ndN n d] 0 = 1 ∧ ∀ fx, vlA [ndN n d] fx 0 = some (some (rat n d)) := by
  have h := ov_of (n := ndN n d) (L := []) (fun i hi => by simp at hi) (by show mkO 1 ≠ 0; decide) (by show cnO 1 = 0; decide) (fun i hi => by simp at hi) hf (by simp)
  obtain ⟨h1, h2, _⟩ := h
  have h3 := h2 (Nat.zero_le _)
  have h4 : ofK [ndN n d] = (1, 0) := h3
  have hz : (ofK [ndN n d]).2 = 0 := by rw [h4]
  refine ⟨wrN_mk h4, h1, fun fx => ?_⟩
  exact vl_num (num_at hz (by simp) (by show mkO 1 = 1; decide)).1 rfl
theorem one_of (a : List Nd) (ha : wrN a 0 = 0) (hl : a.length ≤ 63) : dpA (⟨3, 0, 0, 0, 0⟩ :: a) 0 = dpA a 0 + 1 ∧
    (dpA a 0 ≤ 11 → wrN (⟨3, 0, 0, 0, 0⟩ :: a) 0 = 0 ∧ ∀ fx, vlA (⟨3, 0, 0, 0, 0⟩ :: a) fx 0 = ngV (vlA a fx 0)) := by
  obtain ⟨a1, a2, a3⟩ := num_nm ha
  have eL : [a].flatten = a := by simp
  have hO : ∀ i, i < [a].length → (ofK ([a].getD i [])).2 = 0 := fun i hi => by
    obtain rfl : i = 0 := by simp at hi; omega
    exact a1
  have hmx : mxN (fun i => dpA ([a].getD i []) 0) [a].length = dpA a 0 := by
    show max 0 (dpA a 0) = _
    omega
  have h := ov_of (n := ⟨3, 0, 0, 0, 0⟩) hO (by show mkO 3 ≠ 0; decide) (by show cnO 3 = 1; decide) (fun i hi => by
    obtain rfl : i = 0 := by simp at hi; omega
    show mkO (opA a 0) = kdC (ixO 3) 0
    rw [a3]; decide) (by decide) (by rw [eL, List.length_cons]; omega)
  rw [hmx, eL] at h
  obtain ⟨hd, h3, h4⟩ := h
  refine ⟨hd, fun hle => ?_⟩
  have hok : ofK (⟨3, 0, 0, 0, 0⟩ :: a) = (1, 0) := h3 hle
  have hz : (ofK (⟨3, 0, 0, 0, 0⟩ :: a)).2 = 0 := by rw [hok]
  refine ⟨wrN_mk hok, fun fx => ?_⟩
  have hN : NmA (⟨3, 0, 0, 0, 0⟩ :: a) 0 := (num_at hz (by simp) (by show mkO 3 = 1; decide)).1
  rw [vl_neg hN rfl]
  have hW : ∀ i, i < [a].length → WholeT ([a].getD i []) := fun i hi => (ofK_zero (hO i hi)).2.1
  have p0 := ov_pl (n := ⟨3, 0, 0, 0, 0⟩) hW 0 (by simp)
  have v0 := ov_vl (n := ⟨3, 0, 0, 0, 0⟩) (fx := fx) hO (i := 0) (by simp) a3
  rw [eL] at p0 v0
  rw [show (0 + 1) = 1 from rfl, p0, v0]
  rfl
theorem rat_one : rat 1 1 = 1 := by decide +kernel
theorem rat_nul : rat 0 1 = 0 := by decide +kernel
theorem ng_ng (v : Option (Option Rat)) : ngV (ngV v) = v := by
  match v with
  | none => rfl
  | some none => rfl
  | some (some r) =>
    show some (some (- - r)) = _
    rw [Rat.neg_neg]
theorem times_one {v : Option (Option Rat)} (h : ∀ r, v = some (some r) → fitsR r = true) : twoV 6 (some (some (rat 1 1))) v = v := by
  match v, h with
  | none, _ => rfl
  | some none, _ => rfl
  | some (some r), h =>
    show twoQ 6 (rat 1 1) r = _
    unfold twoQ fitQ
    rw [if_neg (by decide), if_neg (by decide), if_pos rfl, rat_one, Rat.one_mul, if_pos (h r rfl)]
theorem plus_nul {v : Option (Option Rat)} (h : ∀ r, v = some (some r) → fitsR r = true) : twoV 4 (some (some (rat 0 1))) v = v := by
  match v, h with
  | none, _ => rfl
  | some none, _ => rfl
  | some (some r), h =>
    show twoQ 4 (rat 0 1) r = _
    unfold twoQ fitQ
    rw [if_pos rfl, rat_nul, Rat.zero_add, if_pos (h r rfl)]
theorem both_self (op : Int) (hop : op = 7 ∨ op = 8) (v : Option (Option Rat)) : twoV op v v = v := by
  match v with
  | none => rfl
  | some none => rfl
  | some (some r) =>
    show twoQ op r r = _
    unfold twoQ
    rcases hop with rfl | rfl
    · repeat rw [if_neg (by decide)]
      rw [if_pos rfl]
      split <;> rfl
    · repeat rw [if_neg (by decide)]
      split <;> rfl
/-- The heads of ValueOnes. -/
def hdO : Nat → List Nd
  | 0 => [⟨6, 0, 0, 0, 0⟩, ⟨1, 0, 0, 1, 1⟩]
  | 1 => [⟨3, 0, 0, 0, 0⟩, ⟨3, 0, 0, 0, 0⟩]
  | _ => [⟨4, 0, 0, 0, 0⟩, ⟨1, 0, 0, 0, 1⟩]
theorem ones_eq {a : List Nd} {l : List Fct} (hbd : BdT a) (hO : OkL l) (ha : wrN a 0 = 0) (hl : a.length ≤ 20) (hd : dpA a 0 ≤ 10) (day : Int) (i : Nat) : atE (hdO i ++ a) l 0 day = atE a l 0 day ∧ atV (hdO i ++ a) l 0 day = atV a l 0 day := by
  have hf := fun r => at_fits hbd hO ha day (r := r)
  match i with
  | 0 =>
    obtain ⟨l1, l2, l3⟩ := leaf_of (n := 1) (d := 1) (by decide)
    obtain ⟨h, _⟩ := two_num (op := 6) (a := [ndN 1 1]) (b := a) (by decide) (by decide) l1 ha (by simp; omega)
    rw [l2] at h
    obtain ⟨h1, h2⟩ := h (by omega)
    refine at_eq h1 ha ?_
    show vlA (⟨6, 0, 0, 0, 0⟩ :: ([ndN 1 1] ++ a)) _ 0 = _
    rw [h2, l3, times_one hf]
  | 1 =>
    obtain ⟨h1, h2⟩ := one_of a ha (by omega)
    obtain ⟨h3, h4⟩ := h2 (by omega)
    obtain ⟨h5, h6⟩ := one_of (⟨3, 0, 0, 0, 0⟩ :: a) h3 (by simp; omega)
    obtain ⟨h7, h8⟩ := h6 (by omega)
    refine at_eq h7 ha ?_
    show vlA (⟨3, 0, 0, 0, 0⟩ :: ⟨3, 0, 0, 0, 0⟩ :: a) _ 0 = _
    rw [h8, h4, ng_ng]
  | i + 2 =>
    obtain ⟨l1, l2, l3⟩ := leaf_of (n := 0) (d := 1) (by decide)
    obtain ⟨h, _⟩ := two_num (op := 4) (a := [ndN 0 1]) (b := a) (by decide) (by decide) l1 ha (by simp; omega)
    rw [l2] at h
    obtain ⟨h1, h2⟩ := h (by omega)
    refine at_eq h1 ha ?_
    show vlA (⟨4, 0, 0, 0, 0⟩ :: ([ndN 0 1] ++ a)) _ 0 = _
    rw [h2, l3, plus_nul hf]
theorem self_eq {a : List Nd} {l : List Fct} (ha : wrN a 0 = 0) (hl : a.length ≤ 20) (hd : dpA a 0 ≤ 10) (day : Int) {op : Int} (hop : op = 7 ∨ op = 8) : atE (⟨op, 0, 0, 0, 0⟩ :: (a ++ a)) l 0 day = atE a l 0 day ∧ atV (⟨op, 0, 0, 0, 0⟩ :: (a ++ a)) l 0 day = atV a l 0 day := by
  obtain ⟨h, _⟩ := two_num (op := op) (a := a) (b := a) (by omega) (by omega) ha ha (by omega)
  obtain ⟨h1, h2⟩ := h (by omega)
  refine at_eq h1 ha ?_
  rw [h2, both_self op hop]
/-- Three answers of two numbers that are put together. -/
theorem vparts_eq {a b : List Nd} {l : List Fct} (ha : wrN a 0 = 0) (hb : wrN b 0 = 0) (hla : a.length ≤ 30) (hlb : b.length ≤ 30) (hs : (ofK (⟨4, 0, 0, 0, 0⟩ :: (a ++ b))).2 = 0) (day : Int) :
    atE (⟨4, 0, 0, 0, 0⟩ :: (b ++ a)) l 0 day = atE (⟨4, 0, 0, 0, 0⟩ :: (a ++ b)) l 0 day ∧ atV (⟨4, 0, 0, 0, 0⟩ :: (b ++ a)) l 0 day = atV (⟨4, 0, 0, 0, 0⟩ :: (a ++ b)) l 0 day ∧
    (atE a l 0 day = 0 → vB (atV a l 0 day) = true → atE (⟨5, 0, 0, 0, 0⟩ :: (a ++ a)) l 0 day = 0 ∧ atV (⟨5, 0, 0, 0, 0⟩ :: (a ++ a)) l 0 day = some (some 0)) ∧
    ((¬ (atE a l 0 day = 0 ∧ atE b l 0 day = 0) ∧ ∃ k, k ≠ 0 ∧ ∀ op, op = 7 ∨ op = 8 → atE (⟨op, 0, 0, 0, 0⟩ :: (a ++ b)) l 0 day = k ∧ vB (atV (⟨op, 0, 0, 0, 0⟩ :: (a ++ b)) l 0 day) = false) ∨
     ((atE a l 0 day = 0 ∧ atE b l 0 day = 0) ∧ ((∀ op, op = 7 ∨ op = 8 → atE (⟨op, 0, 0, 0, 0⟩ :: (a ++ b)) l 0 day = 0) ∧
       ((∀ op, op = 7 ∨ op = 8 → vB (atV (⟨op, 0, 0, 0, 0⟩ :: (a ++ b)) l 0 day) = false) ∨
        ((∀ op, op = 7 ∨ op = 8 → vB (atV (⟨op, 0, 0, 0, 0⟩ :: (a ++ b)) l 0 day) = true) ∧ vB (atV a l 0 day) = true ∧ vB (atV b l 0 day) = true ∧
          (atV (⟨7, 0, 0, 0, 0⟩ :: (a ++ b)) l 0 day = atV a l 0 day ∧ atV (⟨8, 0, 0, 0, 0⟩ :: (a ++ b)) l 0 day = atV b l 0 day ∨ atV (⟨7, 0, 0, 0, 0⟩ :: (a ++ b)) l 0 day = atV b l 0 day ∧ atV (⟨8, 0, 0, 0, 0⟩ :: (a ++ b)) l 0 day = atV a l 0 day)))))) := by
  have hdep := (two_num (op := 4) (by decide) (by decide) ha hb (by omega)).2 hs
  obtain ⟨s1, s2⟩ := (two_num (op := 4) (by decide) (by decide) ha hb (by omega)).1 hdep
  obtain ⟨t1, t2⟩ := (two_num (op := 4) (by decide) (by decide) hb ha (by omega)).1 (by omega)
  obtain ⟨m1, m2⟩ := (two_num (op := 5) (by decide) (by decide) ha ha (by omega)).1 (by omega)
  have lm : ∀ op : Int, op = 7 ∨ op = 8 → wrN (⟨op, 0, 0, 0, 0⟩ :: (a ++ b)) 0 = 0 ∧ ∀ fx, vlA (⟨op, 0, 0, 0, 0⟩ :: (a ++ b)) fx 0 = twoV op (vlA a fx 0) (vlA b fx 0) := fun op hop => (two_num (op := op) (by omega) (by omega) ha hb (by omega)).1 hdep
  by_cases hday : day < 0 ∨ 73048 < day
  · have key : ∀ t : List Nd, wrN t 0 = 0 → atE t l 0 day = 18 ∧ atV t l 0 day = some none := fun t ht => by
      unfold atE atV
      rw [ht]
      repeat rw [if_neg (show ¬ (0 : Int) ≠ 0 by decide)]
      repeat rw [if_pos hday]
      exact ⟨rfl, rfl⟩
    rw [(key _ s1).1, (key _ s1).2, (key _ t1).1, (key _ t1).2, (key _ m1).1, (key _ m1).2, (key _ ha).1, (key _ ha).2, (key _ hb).1, (key _ hb).2]
    refine ⟨rfl, rfl, (fun h => by cases h), .inl ⟨(fun h => by cases h.1), 18, by decide, fun op hop => ?_⟩⟩
    rw [(key _ (lm op hop).1).1, (key _ (lm op hop).1).2]
    exact ⟨rfl, rfl⟩
  · have key : ∀ t : List Nd, wrN t 0 = 0 → atE t l 0 day = vE (vlA t (fxL l day) 0) ∧ atV t l 0 day = vlA t (fxL l day) 0 := fun t ht => by
      unfold atE atV
      rw [ht]
      repeat rw [if_neg (show ¬ (0 : Int) ≠ 0 by decide)]
      repeat rw [if_neg hday]
      exact ⟨rfl, rfl⟩
    have lm1 : ∀ op : Int, op = 7 ∨ op = 8 → atE (⟨op, 0, 0, 0, 0⟩ :: (a ++ b)) l 0 day = vE (twoV op (vlA a (fxL l day) 0) (vlA b (fxL l day) 0)) ∧ atV (⟨op, 0, 0, 0, 0⟩ :: (a ++ b)) l 0 day = twoV op (vlA a (fxL l day) 0) (vlA b (fxL l day) 0) := fun op hop => by
      rw [(key _ (lm op hop).1).1, (key _ (lm op hop).1).2, (lm op hop).2]
      exact ⟨rfl, rfl⟩
    rw [(key _ s1).1, (key _ s1).2, (key _ t1).1, (key _ t1).2, (key _ m1).1, (key _ m1).2, (key _ ha).1, (key _ ha).2, (key _ hb).1, (key _ hb).2, s2, t2, m2, two_comm 4 (.inl rfl) (vlA b (fxL l day) 0)]
    refine ⟨rfl, rfl, ?_, ?_⟩
    · intro _ h
      match h1 : vlA a (fxL l day) 0 with
      | none => rw [h1] at h; cases h
      | some none => rw [h1] at h; cases h
      | some (some r) => rw [two_minus]; exact ⟨rfl, rfl⟩
    · match h1 : vlA a (fxL l day) 0, h2 : vlA b (fxL l day) 0 with
      | none, _ =>
        refine .inl ⟨(fun h => by cases h.1), 11, by decide, fun op hop => ?_⟩
        rw [(lm1 op hop).1, (lm1 op hop).2, h1, two_none (.inl rfl)]
        exact ⟨rfl, rfl⟩
      | some x, none =>
        refine .inl ⟨(fun h => by cases h.2), 11, by decide, fun op hop => ?_⟩
        rw [(lm1 op hop).1, (lm1 op hop).2, h2, two_none (.inr rfl)]
        exact ⟨rfl, rfl⟩
      | some none, some y =>
        refine .inr ⟨⟨rfl, vE_some _⟩, fun op hop => ?_, .inl fun op hop => ?_⟩
        · rw [(lm1 op hop).1, h1, h2]; rfl
        · rw [(lm1 op hop).2, h1, h2]; rfl
      | some (some x), some none =>
        refine .inr ⟨⟨rfl, rfl⟩, fun op hop => ?_, .inl fun op hop => ?_⟩
        · rw [(lm1 op hop).1, h1, h2]; rfl
        · rw [(lm1 op hop).2, h1, h2]; rfl
      | some (some x), some (some y) =>
        have e7 : twoV 7 (some (some x)) (some (some y)) = some (some (if x < y then x else y)) := rfl
        have e8 : twoV 8 (some (some x)) (some (some y)) = some (some (if y < x then x else y)) := rfl
        have hop2 : ∀ op : Int, op = 7 ∨ op = 8 → ∃ r, twoV op (some (some x)) (some (some y)) = some (some r) := fun op hop => by
          rcases hop with rfl | rfl
          · exact ⟨_, e7⟩
          · exact ⟨_, e8⟩
        refine .inr ⟨⟨rfl, rfl⟩, fun op hop => ?_, .inr ⟨fun op hop => ?_, rfl, rfl, ?_⟩⟩
        · obtain ⟨r, hr⟩ := hop2 op hop
          rw [(lm1 op hop).1, h1, h2, hr]; rfl
        · obtain ⟨r, hr⟩ := hop2 op hop
          rw [(lm1 op hop).2, h1, h2, hr]; rfl
        · rw [(lm1 7 (.inl rfl)).2, (lm1 8 (.inr rfl)).2, h1, h2, e7, e8]
          by_cases hxy : x < y
          · rw [if_pos hxy, if_neg (by exact Rat.not_lt.2 (Rat.le_of_lt hxy))]
            exact .inl ⟨rfl, rfl⟩
          · rw [if_neg hxy]
            by_cases hyx : y < x
            · rw [if_pos hyx]; exact .inr ⟨rfl, rfl⟩
            · rw [if_neg hyx]
              have : x = y := Rat.le_antisymm (Rat.not_lt.1 hyx) (Rat.not_lt.1 hxy)
              subst this
              exact .inl ⟨rfl, rfl⟩

end Go.Proofs.YtfkaliammmpcfaaGreatDoor

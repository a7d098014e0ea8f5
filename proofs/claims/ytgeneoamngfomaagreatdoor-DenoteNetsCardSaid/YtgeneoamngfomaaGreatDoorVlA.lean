/-
  What a number of a term is: no program.
-/
import Derived.Test.YtgeneoamngfomaaGreatDoorTrm
import Derived.Test.YtgeneoamngfomaaGreatDoorRtA
namespace Go.Proofs.YtgeneoamngfomaaGreatDoor
open Go.RowKit Go.Lib
set_option linter.unusedVariables false

theorem one_all : ∀ k < 18, mkT.getD k 0 = 1 → 1 ≤ k ∧ k ≤ 8 ∧ (k ≤ 2 ∧ (kdT.getD k []).length = 0 ∨ k = 3 ∧ (kdT.getD k []).length = 1 ∨ 4 ≤ k ∧ (kdT.getD k []).length = 2) ∧ ∀ i < (kdT.getD k []).length, (kdT.getD k []).getD i 0 = 1 := by decide
theorem op_ix {op : Int} {k : Nat} (h : ixO op = k) (hk : 1 ≤ k) : op = (k : Int) := by
  unfold ixO at h
  split at h
  · omega
  · omega
theorem num_op {op : Int} (h : mkO op = 1) : 1 ≤ op ∧ op ≤ 8 ∧ ((op = 1 ∨ op = 2) ∧ cnO op = 0 ∨ op = 3 ∧ cnO op = 1 ∨ (4 ≤ op ∧ op ≤ 8) ∧ cnO op = 2) ∧ ∀ i, i < cnO op → kdC (ixO op) i = 1 := by
  obtain ⟨h1, h2, h3, h4⟩ := one_all _ (ixO_lt op) h
  have e := op_ix (op := op) rfl h1
  refine ⟨by omega, by omega, ?_, fun i hi => h4 i hi⟩
  rcases h3 with ⟨a, b⟩ | ⟨a, b⟩ | ⟨a, b⟩
  · exact .inl ⟨by omega, b⟩
  · exact .inr (.inl ⟨by omega, b⟩)
  · exact .inr (.inr ⟨by omega, b⟩)
/-- A number: a term all of whose nodes make numbers. -/
structure NmA (t : List Nd) (p : Nat) : Prop where
  tm : TmA t p
  nm : ∀ q, p ≤ q → q < p + szA t p → mkO (opA t q) = 1
theorem NmA.kid {t : List Nd} {p : Nat} (h : NmA t p) {i : Nat} (hi : i < cnO (opA t p)) : NmA t (plA t (p + 1) i) ∧ p < plA t (p + 1) i ∧ plA t (p + 1) i + szA t (plA t (p + 1) i) ≤ p + szA t p := by
  obtain ⟨k1, k2, k3⟩ := h.tm.kid hi
  exact ⟨⟨k1, fun q h1 h2 => h.nm q (by omega) (by omega)⟩, k2, k3⟩
theorem NmA.op {t : List Nd} {p : Nat} (h : NmA t p) : mkO (opA t p) = 1 := h.nm p (Nat.le_refl _) (by have := h.tm.bd; omega)
/-- Below a node that makes a number all nodes do, if all are of their sorts. -/
theorem NmA.of {t : List Nd} : ∀ (n p : Nat), szA t p ≤ n → TmA t p → mkO (opA t p) = 1 → (∀ q, q < t.length → SrtA t q) → NmA t p
  | 0, p, hn, h, _, _ => by have := h.bd; omega
  | n + 1, p, hn, h, hm, hs => by
    refine ⟨h, fun q h1 h2 => ?_⟩
    by_cases e : q = p
    · subst e; exact hm
    · obtain ⟨_, hk, hend⟩ := h.parts
      obtain ⟨i, hi, h3, h4⟩ := pl_find (t := t) (p := p + 1) (cnO (opA t p)) q (by rw [plA]; omega) (by rw [hend]; exact h2)
      obtain ⟨k1, k2, k3⟩ := h.kid hi
      have e1 := hs p h.lt i hi
      rw [(num_op hm).2.2.2 i hi] at e1
      exact (NmA.of n _ (by omega) k1 e1 hs).nm q h3 h4
/-- What a number is; none: something does not fit; some none: it is not known. -/
def fitQ (q : Rat) : Option (Option Rat) := if fitsR q = true then some (some q) else none
def twoQ (op : Int) (a b : Rat) : Option (Option Rat) :=
  if op = 4 then fitQ (a + b) else if op = 5 then fitQ (a - b) else if op = 6 then fitQ (a * b) else if op = 7 then some (some (if a < b then a else b)) else some (some (if b < a then a else b))
def twoV (op : Int) : Option (Option Rat) → Option (Option Rat) → Option (Option Rat)
  | none, _ => none
  | some _, none => none
  | some none, some _ => some none
  | some (some _), some none => some none
  | some (some a), some (some b) => twoQ op a b
def ngV (v : Option (Option Rat)) : Option (Option Rat) := v.map (Option.map fun q => -q)
def vlF (t : List Nd) (fx : Int → Option Rat) : Nat → Nat → Option (Option Rat)
  | 0, _ => some none
  | f + 1, p =>
    if opA t p = 1 then some (some (rat (t.getD p default).num (t.getD p default).den))
    else if opA t p = 2 then some (fx (t.getD p default).a)
    else if opA t p = 3 then ngV (vlF t fx f (plA t (p + 1) 0))
    else twoV (opA t p) (vlF t fx f (plA t (p + 1) 0)) (vlF t fx f (plA t (p + 1) 1))
def vlA (t : List Nd) (fx : Int → Option Rat) (p : Nat) : Option (Option Rat) := vlF t fx (szA t p) p
theorem NmA.cn {t : List Nd} {p : Nat} (h : NmA t p) : (opA t p = 1 ∨ opA t p = 2) ∧ cnO (opA t p) = 0 ∨ opA t p = 3 ∧ cnO (opA t p) = 1 ∨ (4 ≤ opA t p ∧ opA t p ≤ 8) ∧ cnO (opA t p) = 2 := (num_op h.op).2.2.1
theorem vlF_eq {t : List Nd} {fx : Int → Option Rat} : ∀ (f p : Nat), NmA t p → szA t p ≤ f → vlF t fx f p = vlA t fx p
  | 0, p, h, hf => by have := h.tm.bd; omega
  | f + 1, p, h, hf => by
    have hb := h.tm.bd
    obtain ⟨g, hg⟩ : ∃ g, szA t p = g + 1 := ⟨szA t p - 1, by omega⟩
    have key : ∀ i, i < cnO (opA t p) → vlF t fx f (plA t (p + 1) i) = vlF t fx g (plA t (p + 1) i) := fun i hi => by
      obtain ⟨k1, k2, k3⟩ := h.kid hi
      rw [vlF_eq f _ k1 (by omega), vlF_eq g _ k1 (by omega)]
    unfold vlA
    rw [hg, vlF, vlF]
    rcases h.cn with ⟨e | e, _⟩ | ⟨e, e2⟩ | ⟨⟨e3, e4⟩, e2⟩
    · rw [if_pos e, if_pos e]
    · rw [if_neg (by omega), if_pos e, if_neg (by omega), if_pos e]
    · rw [if_neg (by omega), if_neg (by omega), if_pos e, if_neg (by omega), if_neg (by omega), if_pos e, key 0 (by omega)]
    · rw [if_neg (by omega), if_neg (by omega), if_neg (by omega), if_neg (by omega), if_neg (by omega), if_neg (by omega), key 0 (by omega), key 1 (by omega)]
termination_by f _ => f
decreasing_by all_goals omega
/-- What a number is, of what is below it. -/
theorem vlA_eq {t : List Nd} {fx : Int → Option Rat} {p : Nat} (h : NmA t p) : vlA t fx p =
    if opA t p = 1 then some (some (rat (t.getD p default).num (t.getD p default).den))
    else if opA t p = 2 then some (fx (t.getD p default).a)
    else if opA t p = 3 then ngV (vlA t fx (plA t (p + 1) 0))
    else twoV (opA t p) (vlA t fx (plA t (p + 1) 0)) (vlA t fx (plA t (p + 1) 1)) := by
  have hb := h.tm.bd
  obtain ⟨g, hg⟩ : ∃ g, szA t p = g + 1 := ⟨szA t p - 1, by omega⟩
  have key : ∀ i, i < cnO (opA t p) → vlF t fx g (plA t (p + 1) i) = vlA t fx (plA t (p + 1) i) := fun i hi => by
    obtain ⟨k1, k2, k3⟩ := h.kid hi
    rw [vlF_eq g _ k1 (by omega)]
  show vlF t fx (szA t p) p = _
  rw [hg, vlF]
  rcases h.cn with ⟨e | e, _⟩ | ⟨e, e2⟩ | ⟨⟨e3, e4⟩, e2⟩
  · rw [if_pos e, if_pos e]
  · rw [if_neg (by omega), if_pos e, if_neg (by omega), if_pos e]
  · rw [if_neg (by omega), if_neg (by omega), if_pos e, if_neg (by omega), if_neg (by omega), if_pos e, key 0 (by omega)]
  · rw [if_neg (by omega), if_neg (by omega), if_neg (by omega), if_neg (by omega), if_neg (by omega), if_neg (by omega), key 0 (by omega), key 1 (by omega)]
theorem vl_num {t : List Nd} {fx : Int → Option Rat} {p : Nat} (h : NmA t p) (e : opA t p = 1) : vlA t fx p = some (some (rat (t.getD p default).num (t.getD p default).den)) := by rw [vlA_eq h, if_pos e]
theorem vl_fix {t : List Nd} {fx : Int → Option Rat} {p : Nat} (h : NmA t p) (e : opA t p = 2) : vlA t fx p = some (fx (t.getD p default).a) := by rw [vlA_eq h, if_neg (by omega), if_pos e]
theorem vl_neg {t : List Nd} {fx : Int → Option Rat} {p : Nat} (h : NmA t p) (e : opA t p = 3) : vlA t fx p = ngV (vlA t fx (plA t (p + 1) 0)) := by rw [vlA_eq h, if_neg (by omega), if_neg (by omega), if_pos e]
theorem vl_two {t : List Nd} {fx : Int → Option Rat} {p : Nat} (h : NmA t p) (e : 4 ≤ opA t p) : vlA t fx p = twoV (opA t p) (vlA t fx (plA t (p + 1) 0)) (vlA t fx (plA t (p + 1) 1)) := by rw [vlA_eq h, if_neg (by omega), if_neg (by omega), if_neg (by omega)]

theorem ng_none {v : Option (Option Rat)} (h : v = none) : ngV v = none := by rw [h]; rfl
theorem two_none {op : Int} {v u : Option (Option Rat)} (h : v = none ∨ u = none) : twoV op v u = none := by
  rcases h with rfl | rfl
  · rfl
  · match v with
    | none => rfl
    | some none => rfl
    | some (some _) => rfl
/-- What does not fit below does not above. -/
theorem vl_kid {t : List Nd} {fx : Int → Option Rat} {p : Nat} (h : NmA t p) {i : Nat} (hi : i < cnO (opA t p)) (hv : vlA t fx (plA t (p + 1) i) = none) : vlA t fx p = none := by
  rcases h.cn with ⟨_, e2⟩ | ⟨e, e2⟩ | ⟨⟨e3, e4⟩, e2⟩
  · omega
  · rw [vl_neg h e]
    obtain rfl : i = 0 := by omega
    exact ng_none hv
  · rw [vl_two h e3]
    rcases (show i = 0 ∨ i = 1 by omega) with rfl | rfl
    · exact two_none (.inl hv)
    · exact two_none (.inr hv)
theorem NmA.in {t : List Nd} : ∀ (n p : Nat), szA t p ≤ n → NmA t p → ∀ q, p ≤ q → q < p + szA t p → NmA t q ∧ q + szA t q ≤ p + szA t p
  | 0, p, hn, h, _, _, _ => by have := h.tm.bd; omega
  | n + 1, p, hn, h, q, h1, h2 => by
    by_cases e : q = p
    · subst e; exact ⟨h, Nat.le_refl _⟩
    · obtain ⟨_, hk, hend⟩ := h.tm.parts
      obtain ⟨i, hi, h3, h4⟩ := pl_find (t := t) (p := p + 1) (cnO (opA t p)) q (by rw [plA]; omega) (by rw [hend]; exact h2)
      obtain ⟨k1, k2, k3⟩ := h.kid hi
      obtain ⟨j1, j2⟩ := NmA.in n _ (by omega) k1 q h3 h4
      exact ⟨j1, by omega⟩
/-- What does not fit anywhere below does not above. -/
theorem vl_up {t : List Nd} {fx : Int → Option Rat} : ∀ (n p : Nat), szA t p ≤ n → NmA t p → ∀ q, p ≤ q → q < p + szA t p → vlA t fx q = none → vlA t fx p = none
  | 0, p, hn, h, _, _, _, _ => by have := h.tm.bd; omega
  | n + 1, p, hn, h, q, h1, h2, hv => by
    by_cases e : q = p
    · subst e; exact hv
    · obtain ⟨_, hk, hend⟩ := h.tm.parts
      obtain ⟨i, hi, h3, h4⟩ := pl_find (t := t) (p := p + 1) (cnO (opA t p)) q (by rw [plA]; omega) (by rw [hend]; exact h2)
      obtain ⟨k1, k2, k3⟩ := h.kid hi
      exact vl_kid h hi (vl_up n _ (by omega) k1 q h3 h4 hv)

/-- Within a number's part a number is as it is in the whole. -/
theorem sub_nm {t : List Nd} {p : Nat} (h : NmA t p) {q : Nat} (hq : q < szA t p) : NmA (subT t p (szA t p)) q ∧ NmA t (p + q) ∧ szA t (p + q) = szA (subT t p (szA t p)) q := by
  obtain ⟨h1, h2, h3, h4⟩ := tm_nest h.tm hq
  refine ⟨⟨h1, fun r hr1 hr2 => ?_⟩, ⟨h2, fun r hr1 hr2 => h.nm r (by omega) (by omega)⟩, h3⟩
  rw [subT_op h.tm.bd.2 (by omega)]
  exact h.nm (p + r) (by omega) (by omega)
theorem vl_sub {t : List Nd} {fx : Int → Option Rat} {p : Nat} (h : NmA t p) : ∀ (n q : Nat), q < szA t p → szA t (p + q) ≤ n → vlA (subT t p (szA t p)) fx q = vlA t fx (p + q)
  | 0, q, hq, hn => by
    obtain ⟨_, h2, _⟩ := sub_nm h hq
    have := h2.tm.bd; omega
  | n + 1, q, hq, hn => by
    obtain ⟨h1, h2, h3⟩ := sub_nm h hq
    have hop := subT_op (n := szA t p) h.tm.bd.2 hq
    have hg := subT_get (n := szA t p) h.tm.bd.2 hq
    have key : ∀ i, i < cnO (opA t (p + q)) → vlA (subT t p (szA t p)) fx (plA (subT t p (szA t p)) (q + 1) i) = vlA t fx (plA t (p + q + 1) i) := fun i hi => by
      have ih := sub_pl h.tm hq i (by omega)
      obtain ⟨k1, k2, k3⟩ := h2.kid hi
      obtain ⟨_, _, _, h4⟩ := tm_nest h.tm hq
      rw [← ih] at k1 k2 k3 ⊢
      have hb1 := k1.tm.bd
      exact vl_sub h n (plA (subT t p (szA t p)) (q + 1) i) (by omega) (by omega)
    rw [vlA_eq h1, vlA_eq h2, hop, hg]
    rcases h2.cn with ⟨e | e, _⟩ | ⟨e, e2⟩ | ⟨⟨e3, e4⟩, e2⟩
    · rw [if_pos e, if_pos e]
    · rw [if_neg (by omega), if_pos e, if_neg (by omega), if_pos e]
    · rw [if_neg (by omega), if_neg (by omega), if_pos e, if_neg (by omega), if_neg (by omega), if_pos e, key 0 (by omega)]
    · rw [if_neg (by omega), if_neg (by omega), if_neg (by omega), if_neg (by omega), if_neg (by omega), if_neg (by omega), key 0 (by omega), key 1 (by omega)]

theorem fits_neg {q : Rat} (h : fitsR q = true) : fitsR (-q) = true := by
  unfold fitsR at h ⊢
  rw [decide_eq_true_eq] at h ⊢
  rw [Rat.neg_num, Rat.neg_den]
  exact ⟨by omega, by omega, h.2.2⟩
theorem two_fits {op : Int} {a b r : Rat} (ha : fitsR a = true) (hb : fitsR b = true) (h : twoV op (some (some a)) (some (some b)) = some (some r)) : fitsR r = true := by
  have hr' : twoQ op a b = some (some r) := h
  have fq : ∀ q, fitQ q = some (some r) → fitsR r = true := fun q hq => by
    unfold fitQ at hq
    split at hq
    · rename_i hf
      injection hq with hq
      injection hq with hq
      rw [← hq]; exact hf
    · cases hq
  unfold twoQ at hr'
  split at hr'
  · exact fq _ hr'
  · split at hr'
    · exact fq _ hr'
    · split at hr'
      · exact fq _ hr'
      · split at hr'
        · injection hr' with hr'
          injection hr' with hr'
          rw [← hr']; split <;> assumption
        · injection hr' with hr'
          injection hr' with hr'
          rw [← hr']; split <;> assumption
/-- What is known fits. -/
theorem vl_fits {t : List Nd} {fx : Int → Option Rat} (hN : ∀ q, q < t.length → opA t q = 1 → OkR (t.getD q default).num (t.getD q default).den) (hF : ∀ k r, fx k = some r → fitsR r = true) : ∀ (n p : Nat), szA t p ≤ n → NmA t p → ∀ r, vlA t fx p = some (some r) → fitsR r = true
  | 0, p, hn, h => by have := h.tm.bd; omega
  | n + 1, p, hn, h => by
    intro r hr
    have hb := h.tm.bd
    have key : ∀ i, i < cnO (opA t p) → ∀ r, vlA t fx (plA t (p + 1) i) = some (some r) → fitsR r = true := fun i hi => by
      obtain ⟨k1, k2, k3⟩ := h.kid hi
      exact vl_fits hN hF n _ (by omega) k1
    rcases h.cn with ⟨e | e, _⟩ | ⟨e, e2⟩ | ⟨⟨e3, e4⟩, e2⟩
    · rw [vl_num h e] at hr
      injection hr with hr
      injection hr with hr
      rw [← hr]
      exact fitsR_ok (hN p (by omega) e)
    · rw [vl_fix h e] at hr
      injection hr with hr
      exact hF _ _ hr
    · rw [vl_neg h e] at hr
      have k0 := key 0 (by omega)
      match h1 : vlA t fx (plA t (p + 1) 0) with
      | none => rw [h1] at hr; cases hr
      | some none => rw [h1] at hr; cases hr
      | some (some a) =>
        rw [h1] at hr
        have : some (some (-a)) = some (some r) := hr
        injection this with this
        injection this with this
        rw [← this]
        exact fits_neg (k0 a h1)
    · rw [vl_two h e3] at hr
      have k0 := key 0 (by omega)
      have k1 := key 1 (by omega)
      match h1 : vlA t fx (plA t (p + 1) 0), h2 : vlA t fx (plA t (p + 1) 1) with
      | none, _ => rw [h1] at hr; cases hr
      | some none, none => rw [h1, h2] at hr; cases hr
      | some (some a), none => rw [h1, h2] at hr; cases hr
      | some none, some b => rw [h1, h2] at hr; cases hr
      | some (some a), some none => rw [h1, h2] at hr; cases hr
      | some (some a), some (some b) =>
        rw [h1, h2] at hr
        have hr' : twoQ (opA t p) a b = some (some r) := hr
        have fq : ∀ q, fitQ q = some (some r) → fitsR r = true := fun q hq => by
          unfold fitQ at hq
          split at hq
          · rename_i hf
            injection hq with hq
            injection hq with hq
            rw [← hq]; exact hf
          · cases hq
        have ha := k0 a h1
        have hb' := k1 b h2
        unfold twoQ at hr'
        split at hr'
        · exact fq _ hr'
        · split at hr'
          · exact fq _ hr'
          · split at hr'
            · exact fq _ hr'
            · split at hr'
              · injection hr' with hr'
                injection hr' with hr'
                rw [← hr']; split <;> assumption
              · injection hr' with hr'
                injection hr' with hr'
                rw [← hr']; split <;> assumption

end Go.Proofs.YtgeneoamngfomaaGreatDoor

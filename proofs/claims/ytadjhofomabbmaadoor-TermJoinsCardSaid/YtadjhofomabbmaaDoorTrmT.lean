/-
  What stands below a node of a term is a term: no program.
-/
import Derived.Test.YtadjhofomabbmaaDoorTrm
namespace Go.Proofs.YtadjhofomabbmaaDoor
open Go.RowKit Go.Lib
set_option linter.unusedVariables false

/-- What stands from a node on. -/
def subT (t : List Nd) (p n : Nat) : List Nd := (t.drop p).take n
theorem subT_len {t : List Nd} {p n : Nat} (h : p + n ≤ t.length) : (subT t p n).length = n := by
  unfold subT
  rw [List.length_take, List.length_drop]; omega
theorem subT_get {t : List Nd} {p n i : Nat} (h : p + n ≤ t.length) (hi : i < n) : (subT t p n).getD i default = t.getD (p + i) default := by
  unfold subT
  rw [List.getD_eq_getElem?_getD, List.getD_eq_getElem?_getD, List.getElem?_take, if_pos hi, List.getElem?_drop]
theorem subT_op {t : List Nd} {p n i : Nat} (h : p + n ≤ t.length) (hi : i < n) : opA (subT t p n) i = opA t (p + i) := by
  unfold opA
  rw [subT_get h hi]
theorem subT_drop {t : List Nd} {p n q : Nat} : (subT t p n).drop q = (t.drop (p + q)).take (n - q) := by
  unfold subT
  rw [List.drop_take, List.drop_drop]
theorem sub_whole {t : List Nd} {p : Nat} (h : TmA t p) : WholeT (subT t p (szA t p)) := by
  unfold WholeT
  rw [subT_len h.bd.2]
  exact scan_take h.eq (Nat.le_refl _)
/-- Within a term's part a term is as it is in the whole. -/
theorem sub_tm {t : List Nd} {p n q : Nat} (h : TmA (subT t p n) q) : TmA t (p + q) ∧ szA t (p + q) = szA (subT t p n) q := by
  have e := h.eq
  rw [subT_drop] at e
  have e2 := scan_more e ((t.drop (p + q)).drop (n - q))
  rw [List.take_append_drop] at e2
  exact TmA.of e2
theorem tm_nest {t : List Nd} {p q : Nat} (h : TmA t p) (hq : q < szA t p) : TmA (subT t p (szA t p)) q ∧ TmA t (p + q) ∧ szA t (p + q) = szA (subT t p (szA t p)) q ∧ q + szA t (p + q) ≤ szA t p := by
  have hw := sub_whole h
  have hl := subT_len (n := szA t p) h.bd.2
  have h1 := hw.all q (by rw [hl]; exact hq)
  obtain ⟨h2, h3⟩ := sub_tm h1
  have := h1.bd.2
  rw [hl] at this
  exact ⟨h1, h2, h3, by omega⟩
theorem sub_pl {t : List Nd} {p : Nat} (h : TmA t p) {q : Nat} (hq : q < szA t p) : ∀ i, i ≤ cnO (opA t (p + q)) → p + plA (subT t p (szA t p)) (q + 1) i = plA t (p + q + 1) i
  | 0, _ => by rw [plA, plA]; omega
  | i + 1, hi => by
    obtain ⟨h1, h2, h3, h4⟩ := tm_nest h hq
    have hop := subT_op (n := szA t p) h.bd.2 hq
    obtain ⟨k1, k2, k3⟩ := h1.kid (i := i) (by rw [hop]; omega)
    have ih := sub_pl h hq i (by omega)
    obtain ⟨k4, k5⟩ := sub_tm k1
    rw [plA, plA, ← ih, k5]; omega
theorem sub_dp {t : List Nd} {p : Nat} (h : TmA t p) : ∀ (n q : Nat), q < szA t p → szA t (p + q) ≤ n → dpA (subT t p (szA t p)) q = dpA t (p + q)
  | 0, q, hq, hn => by
    obtain ⟨_, h2, _, _⟩ := tm_nest h hq
    have := h2.bd; omega
  | n + 1, q, hq, hn => by
    obtain ⟨h1, h2, h3, h4⟩ := tm_nest h hq
    have hop := subT_op (n := szA t p) h.bd.2 hq
    rw [dpA_eq h1, dpA_eq h2, hop]
    congr 1
    refine mxN_congr _ (fun i hi => ?_)
    have ih := sub_pl h hq i (by omega)
    obtain ⟨k1, k2, k3⟩ := h2.kid hi
    rw [← ih] at k1 k2 k3 ⊢
    have hb1 := k1.bd
    exact sub_dp h n (plA (subT t p (szA t p)) (q + 1) i) (by omega) (by omega)
/-- Which of the terms below has a place. -/
theorem pl_find {t : List Nd} {p : Nat} : ∀ (c q : Nat), plA t p 0 ≤ q → q < plA t p c → ∃ i, i < c ∧ plA t p i ≤ q ∧ q < plA t p i + szA t (plA t p i)
  | 0, q, h1, h2 => by omega
  | c + 1, q, h1, h2 => by
    by_cases h : q < plA t p c
    · obtain ⟨i, h3, h4⟩ := pl_find c q h1 h
      exact ⟨i, by omega, h4⟩
    · exact ⟨c, by omega, by omega, by rw [plA] at h2; exact h2⟩
theorem dp_in {t : List Nd} : ∀ (n p : Nat), szA t p ≤ n → TmA t p → ∀ q, p ≤ q → q < p + szA t p → dpA t q ≤ dpA t p
  | 0, p, hn, h, _, _, _ => by have := h.bd; omega
  | n + 1, p, hn, h, q, h1, h2 => by
    by_cases e : q = p
    · subst e; exact Nat.le_refl _
    · obtain ⟨_, hk, hend⟩ := h.parts
      obtain ⟨i, hi, h3, h4⟩ := pl_find (t := t) (p := p + 1) (cnO (opA t p)) q (by rw [plA]; omega) (by rw [hend]; exact h2)
      obtain ⟨k1, k2, k3⟩ := h.kid hi
      have ih := dp_in n (plA t (p + 1) i) (by omega) k1 q h3 h4
      rw [dpA_eq h]
      have := le_mxN (g := fun i => dpA t (plA t (p + 1) i)) hi
      have this2 : dpA t (plA t (p + 1) i) ≤ mxN (fun i => dpA t (plA t (p + 1) i)) (cnO (opA t p)) := this
      omega

/-- What a row that is right tells. -/
theorem ofK_zero {t : List Nd} (h : (ofK t).2 = 0) : t.length ≤ 64 ∧ WholeT t ∧ (∀ p, p < t.length → fldO (t.getD p default) = true) ∧ (∀ p, p < t.length → SrtA t p) ∧ dpA t 0 ≤ 12 := by
  unfold ofK at h
  by_cases c1 : 64 < t.length
  · rw [if_pos c1] at h; cases h
  rw [if_neg c1] at h
  by_cases c2 : WholeT t
  · rw [if_neg (fun x => x c2)] at h
    by_cases c3 : ∀ p, p < t.length → fldO (t.getD p default) = true
    · rw [if_neg (fun x => x c3)] at h
      by_cases c4 : ∀ p, p < t.length → SrtA t p
      · rw [if_neg (fun x => x c4)] at h
        by_cases c5 : 12 < dpA t 0
        · rw [if_pos c5] at h; cases h
        · exact ⟨by omega, c2, c3, c4, by omega⟩
      · rw [if_pos c4] at h; cases h
    · rw [if_pos c3] at h; cases h
  · rw [if_pos c2] at h; cases h
theorem ofK_yes {t : List Nd} (h1 : t.length ≤ 64) (h2 : WholeT t) (h3 : ∀ p, p < t.length → fldO (t.getD p default) = true) (h4 : ∀ p, p < t.length → SrtA t p) (h5 : dpA t 0 ≤ 12) : ofK t = (mkO (opA t 0), 0) := by
  unfold ofK
  rw [if_neg (by omega), if_neg (fun x => x h2), if_neg (fun x => x h3), if_neg (fun x => x h4), if_neg (by omega)]
theorem sub_srt {t : List Nd} {p : Nat} (h : TmA t p) {q : Nat} (hq : q < szA t p) (hs : SrtA t (p + q)) : SrtA (subT t p (szA t p)) q := by
  intro i hi
  have hop := subT_op (n := szA t p) h.bd.2 hq
  rw [hop] at hi ⊢
  have ih := sub_pl h hq i (by omega)
  obtain ⟨h1, h2, h3, h4⟩ := tm_nest h hq
  obtain ⟨k1, k2, k3⟩ := h2.kid hi
  have hb1 := k1.bd
  rw [← hs i hi, ← ih, subT_op h.bd.2 (by omega)]
/-- What stands below any node of a right term is right. -/
theorem sub_of {t : List Nd} (h : (ofK t).2 = 0) {p : Nat} (hp : p < t.length) : ofK (subT t p (szA t p)) = (mkO (opA t p), 0) := by
  obtain ⟨h1, h2, h3, h4, h5⟩ := ofK_zero h
  have ht := h2.all p hp
  have hl := subT_len (n := szA t p) ht.bd.2
  have hb := ht.bd
  have e0 := subT_op (i := 0) (n := szA t p) hb.2 (by omega)
  rw [Nat.add_zero] at e0
  rw [← e0]
  refine ofK_yes (by omega) (sub_whole ht) (fun q hq => ?_) (fun q hq => ?_) ?_
  · rw [hl] at hq
    rw [subT_get hb.2 hq]; exact h3 _ (by omega)
  · rw [hl] at hq
    exact sub_srt ht hq (h4 _ (by omega))
  · have e := sub_dp ht (szA t (p + 0)) 0 (by omega) (Nat.le_refl _)
    rw [Nat.add_zero] at e
    obtain ⟨w1, w2⟩ := h2.tm
    have := dp_in (szA t 0) 0 (Nat.le_refl _) w1 p (Nat.zero_le _) (by rw [w2]; omega)
    omega

end Go.Proofs.YtadjhofomabbmaaDoor

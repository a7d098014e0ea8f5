/-
  A node over rows that are terms: which term it is, and what it is as a number (no program).
-/
import Derived.Test.YtgeneoamngfomaaGreatDoorVlH
import Derived.Test.YtgeneoamngfomaaGreatDoorTrm
namespace Go.Proofs.YtgeneoamngfomaaGreatDoor
open Go.RowKit Go.Lib Go.Shelf Go.Maps
set_option linter.unusedVariables false
set_option linter.unusedSimpArgs false

/-- Where the parts below a node begin. -/
def offL (L : List (List Nd)) (i : Nat) : Nat := 1 + (L.take i).flatten.length
theorem offL_succ {L : List (List Nd)} {i : Nat} (hi : i < L.length) : offL L (i + 1) = offL L i + (L.getD i []).length := by
  unfold offL
  rw [List.take_add_one, List.getElem?_eq_getElem hi, List.flatten_append, List.length_append, List.getD_eq_getElem?_getD, List.getElem?_eq_getElem hi]
  simp; omega
theorem offL_all (L : List (List Nd)) : offL L L.length = 1 + L.flatten.length := by unfold offL; rw [List.take_length]
theorem ov_drop (n : Nd) {L : List (List Nd)} {i : Nat} (hi : i < L.length) : (n :: L.flatten).drop (offL L i) = L.getD i [] ++ (L.drop (i + 1)).flatten := by
  unfold offL
  rw [Nat.add_comm, List.drop_succ_cons]
  have e : L.flatten = (L.take i).flatten ++ (L.drop i).flatten := by rw [← List.flatten_append, List.take_append_drop]
  rw [e, List.drop_left, List.drop_eq_getElem_cons hi, List.flatten_cons, List.getD_eq_getElem?_getD, List.getElem?_eq_getElem hi]
  rfl
theorem ov_part {n : Nd} {L : List (List Nd)} {i : Nat} (hi : i < L.length) (hw : WholeT (L.getD i [])) : TmA (n :: L.flatten) (offL L i) ∧ szA (n :: L.flatten) (offL L i) = (L.getD i []).length :=
  TmA.of (by rw [ov_drop n hi]; exact scan_more hw _)
theorem ov_pl {n : Nd} {L : List (List Nd)} (hW : ∀ i, i < L.length → WholeT (L.getD i [])) : ∀ i, i ≤ L.length → plA (n :: L.flatten) 1 i = offL L i
  | 0, _ => by simp [offL, plA]
  | i + 1, hi => by rw [plA, ov_pl hW i (by omega), (ov_part (n := n) (by omega) (hW i (by omega))).2, offL_succ (by omega)]
theorem ov_whole {n : Nd} {L : List (List Nd)} (hW : ∀ i, i < L.length → WholeT (L.getD i [])) (hm : mkO n.op ≠ 0) (hc : cnO n.op = L.length) : WholeT (n :: L.flatten) := by
  have hT : TmA (n :: L.flatten) 0 := TmA.mk (by simp) hm (fun i hi => by
    rw [show opA (n :: L.flatten) 0 = n.op from rfl, hc] at hi
    rw [ov_pl hW i (by omega)]
    exact (ov_part hi (hW i hi)).1)
  refine WholeT.of hT ?_
  have h := hT.parts.2.2
  rw [show opA (n :: L.flatten) 0 = n.op from rfl, hc, ov_pl hW _ (Nat.le_refl _), offL_all] at h
  rw [List.length_cons]; omega
theorem ov_sub (n : Nd) {L : List (List Nd)} {i : Nat} (hi : i < L.length) : subT (n :: L.flatten) (offL L i) (L.getD i []).length = L.getD i [] := by
  unfold subT
  rw [ov_drop n hi, List.take_left]
theorem ov_get {n : Nd} {L : List (List Nd)} {i r : Nat} (hi : i < L.length) (hw : WholeT (L.getD i [])) (hr : r < (L.getD i []).length) : (n :: L.flatten).getD (offL L i + r) default = (L.getD i []).getD r default := by
  obtain ⟨h1, h2⟩ := ov_part (n := n) hi hw
  have hb := h1.bd.2
  rw [h2] at hb
  have := subT_get (t := n :: L.flatten) (p := offL L i) (n := (L.getD i []).length) (i := r) hb hr
  rw [ov_sub n hi] at this
  exact this.symm
theorem ov_op {n : Nd} {L : List (List Nd)} {i r : Nat} (hi : i < L.length) (hw : WholeT (L.getD i [])) (hr : r < (L.getD i []).length) : opA (n :: L.flatten) (offL L i + r) = opA (L.getD i []) r := by
  unfold opA; rw [ov_get hi hw hr]
theorem ov_find {n : Nd} {L : List (List Nd)} (hW : ∀ i, i < L.length → WholeT (L.getD i [])) {q : Nat} (h1 : 1 ≤ q) (h2 : q < (n :: L.flatten).length) : ∃ i r, i < L.length ∧ r < (L.getD i []).length ∧ q = offL L i + r := by
  obtain ⟨i, hi, h3, h4⟩ := pl_find (t := n :: L.flatten) (p := 1) L.length q h1 (by rw [ov_pl hW _ (Nat.le_refl _), offL_all]; rw [List.length_cons] at h2; omega)
  rw [ov_pl hW i (by omega)] at h3 h4
  rw [(ov_part (n := n) hi (hW i hi)).2] at h4
  exact ⟨i, q - offL L i, hi, by omega, by omega⟩
theorem ov_srt {n : Nd} {L : List (List Nd)} {i r : Nat} (hi : i < L.length) (hw : WholeT (L.getD i [])) (hr : r < (L.getD i []).length) (hs : SrtA (L.getD i []) r) : SrtA (n :: L.flatten) (offL L i + r) := by
  intro j hj
  obtain ⟨h1, h2⟩ := ov_part (n := n) hi hw
  rw [ov_op hi hw hr] at hj ⊢
  have h := sub_pl h1 (q := r) (by rw [h2]; exact hr) j (by rw [ov_op hi hw hr]; omega)
  rw [h2, ov_sub n hi] at h
  have hk := ((hw.all r hr).kid hj).1.lt
  rw [← h, ov_op hi hw hk]
  exact hs j hj
/-- Which term a node over terms is. -/
theorem ov_of {n : Nd} {L : List (List Nd)} (hO : ∀ i, i < L.length → (ofK (L.getD i [])).2 = 0) (hm : mkO n.op ≠ 0) (hc : cnO n.op = L.length) (hk : ∀ i, i < L.length → mkO (opA (L.getD i []) 0) = kdC (ixO n.op) i) (hf : fldO n = true) (hl : (n :: L.flatten).length ≤ 64) :
    dpA (n :: L.flatten) 0 = mxN (fun i => dpA (L.getD i []) 0) L.length + 1 ∧ (mxN (fun i => dpA (L.getD i []) 0) L.length ≤ 11 → ofK (n :: L.flatten) = (mkO n.op, 0)) ∧ ((ofK (n :: L.flatten)).2 = 0 → mxN (fun i => dpA (L.getD i []) 0) L.length ≤ 11) := by
  have hW : ∀ i, i < L.length → WholeT (L.getD i []) := fun i hi => (ofK_zero (hO i hi)).2.1
  have hw := ov_whole hW hm hc
  have hd : dpA (n :: L.flatten) 0 = mxN (fun i => dpA (L.getD i []) 0) L.length + 1 := by
    rw [dpA_eq hw.tm.1, show opA (n :: L.flatten) 0 = n.op from rfl, hc]
    congr 1
    refine mxN_congr _ (fun i hi => ?_)
    obtain ⟨h1, h2⟩ := ov_part (n := n) hi (hW i hi)
    have hs := sub_dp h1 (szA (n :: L.flatten) (offL L i + 0)) 0 (by rw [h2]; exact whole_len (hW i hi)) (Nat.le_refl _)
    rw [h2, ov_sub n hi, Nat.add_zero] at hs
    show dpA (n :: L.flatten) (plA (n :: L.flatten) 1 i) = _
    rw [ov_pl hW i (by omega), hs]
  refine ⟨hd, fun hle => ?_, fun hz => ?_⟩
  · refine ofK_yes hl hw (fun p hp => ?_) (fun p hp => ?_) (by rw [hd]; omega)
    · by_cases h0 : p = 0
      · subst h0; exact hf
      · obtain ⟨i, r, hi, hr, rfl⟩ := ov_find (n := n) hW (by omega) hp
        rw [ov_get hi (hW i hi) hr]
        exact (ofK_zero (hO i hi)).2.2.1 r hr
    · by_cases h0 : p = 0
      · subst h0
        intro i hi
        rw [show opA (n :: L.flatten) 0 = n.op from rfl] at hi ⊢
        rw [hc] at hi
        rw [ov_pl hW i (by omega), ← Nat.add_zero (offL L i), ov_op hi (hW i hi) (whole_len (hW i hi))]
        exact hk i hi
      · obtain ⟨i, r, hi, hr, rfl⟩ := ov_find (n := n) hW (by omega) hp
        exact ov_srt hi (hW i hi) hr ((ofK_zero (hO i hi)).2.2.2.1 r hr)
  · have := (ofK_zero hz).2.2.2.2
    omega
/-- What a part is as a number. -/
theorem ov_vl {n : Nd} {L : List (List Nd)} (hO : ∀ i, i < L.length → (ofK (L.getD i [])).2 = 0) {fx : Int → Option Rat} {i : Nat} (hi : i < L.length) (hm1 : mkO (opA (L.getD i []) 0) = 1) : vlA (n :: L.flatten) fx (offL L i) = vlA (L.getD i []) fx 0 := by
  have hw := (ofK_zero (hO i hi)).2.1
  obtain ⟨h1, h2⟩ := ov_part (n := n) hi hw
  have hN : NmA (L.getD i []) 0 := (num_at (hO i hi) (whole_len hw) hm1).1
  have hN2 : NmA (n :: L.flatten) (offL L i) := ⟨h1, fun q hq1 hq2 => by
    obtain ⟨r, rfl⟩ : ∃ r, q = offL L i + r := ⟨q - offL L i, by omega⟩
    have hr : r < (L.getD i []).length := by rw [h2] at hq2; omega
    rw [ov_op hi hw hr]
    refine hN.nm r (Nat.zero_le _) ?_
    rw [hw.tm.2, Nat.zero_add]; exact hr⟩
  have := vl_sub (fx := fx) hN2 (szA (n :: L.flatten) (offL L i + 0)) 0 (by rw [h2]; exact whole_len hw) (Nat.le_refl _)
  rw [h2, ov_sub n hi, Nat.add_zero] at this
  exact this.symm
end Go.Proofs.YtgeneoamngfomaaGreatDoor

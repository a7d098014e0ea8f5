/-
  A contract with a node more on top, and rows joined: no program.
-/
import Derived.Test.YtadjhofomabbmaaDoorTrmV
namespace Go.Proofs.YtadjhofomabbmaaDoor
open Go.RowKit Go.Lib
set_option linter.unusedVariables false

theorem up_sub (n : Nd) (t : List Nd) : subT (n :: t) 1 t.length = t := by unfold subT; simp
theorem up_op (n : Nd) (t : List Nd) (p : Nat) : opA (n :: t) (1 + p) = opA t p := by unfold opA; rw [Nat.add_comm]; simp [List.getD_eq_getElem?_getD]
theorem up_a (n : Nd) (t : List Nd) (p : Nat) : aA (n :: t) (1 + p) = aA t p := by unfold aA; rw [Nat.add_comm]; simp [List.getD_eq_getElem?_getD]
theorem up_b (n : Nd) (t : List Nd) (p : Nat) : bA (n :: t) (1 + p) = bA t p := by unfold bA; rw [Nat.add_comm]; simp [List.getD_eq_getElem?_getD]
theorem up_tm {n : Nd} {t : List Nd} (hw : WholeT t) : TmA (n :: t) 1 ∧ szA (n :: t) 1 = t.length := TmA.of (by rw [List.drop_succ_cons, List.drop_zero]; exact hw)
theorem up_whole {n : Nd} {t : List Nd} (hw : WholeT t) (hm : mkO n.op ≠ 0) (hc : cnO n.op = 1) : WholeT (n :: t) := by
  have hw' : scan 1 t = some t.length := hw
  have h := scan_cons (o := 0) (xs := t) hm
  rw [hc, Nat.zero_add, hw'] at h
  exact h
theorem up_dp {n : Nd} {t : List Nd} (hw : WholeT t) (hm : mkO n.op ≠ 0) (hc : cnO n.op = 1) : dpA (n :: t) 0 = dpA t 0 + 1 := by
  have h0 : TmA (n :: t) 0 := (up_whole hw hm hc).tm.1
  obtain ⟨h1, h2⟩ := up_tm (n := n) hw
  have hs := sub_dp h1 (szA (n :: t) (1 + 0)) 0 (by rw [h2]; exact whole_len hw) (Nat.le_refl _)
  rw [h2, up_sub] at hs
  rw [dpA_eq h0, show opA (n :: t) 0 = n.op from rfl, hc, hs]
  simp [mxN, plA]
theorem up_srt {n : Nd} {t : List Nd} (hw : WholeT t) {q : Nat} (hq : q < t.length) (hs : SrtA t q) : SrtA (n :: t) (1 + q) := by
  intro i hi
  obtain ⟨h1, h2⟩ := up_tm (n := n) hw
  rw [up_op] at hi ⊢
  have h := sub_pl h1 (q := q) (by rw [h2]; exact hq) i (by rw [up_op]; omega)
  rw [h2, up_sub] at h
  rw [← h, up_op]
  exact hs i hi
theorem chk_mk {t : List Nd} (hk : chkK t = 0) : (ofK t).2 = 0 ∧ mkO (opA t 0) = 2 := by
  unfold chkK at hk
  by_cases h1 : (ofK t).2 ≠ 0
  · rw [if_pos h1] at hk; exact absurd hk h1
  · rw [if_neg h1] at hk
    have h2 : (ofK t).2 = 0 := by omega
    refine ⟨h2, ?_⟩
    by_cases h3 : (ofK t).1 = 2
    · obtain ⟨k1, k2, k3, k4, k5⟩ := ofK_zero h2
      rw [ofK_yes k1 k2 k3 k4 k5] at h3
      exact h3
    · rw [if_neg h3] at hk; cases hk
theorem up_ops {op : Int} (h : op = 11 ∨ op = 14) : mkO op = 2 ∧ cnO op = 1 ∧ kdC (ixO op) 0 = 2 := by
  rcases h with rfl | rfl <;> decide
/-- What Of tells of a contract with a node more on top. -/
theorem up_of {n : Nd} {t : List Nd} (hk : chkK t = 0) (hop : n.op = 11 ∨ n.op = 14) (hf : fldO n = true) (hl : t.length ≤ 63) : (dpA t 0 = 12 → ofK (n :: t) = (0, 15)) ∧ (dpA t 0 ≠ 12 → ofK (n :: t) = (2, 0)) ∧ dpA t 0 ≤ 12 ∧ dpA (n :: t) 0 = dpA t 0 + 1 := by
  obtain ⟨h0, h1⟩ := chk_mk hk
  obtain ⟨k1, k2, k3, k4, k5⟩ := ofK_zero h0
  obtain ⟨o1, o2, o3⟩ := up_ops hop
  have hw := up_whole (n := n) k2 (by rw [o1]; decide) o2
  have hd := up_dp (n := n) k2 (by rw [o1]; decide) o2
  have f3 : ∀ p, p < (n :: t).length → fldO ((n :: t).getD p default) = true := by
    intro p hp
    cases p with
    | zero => exact hf
    | succ p => exact k3 p (by simpa using hp)
  have f4 : ∀ p, p < (n :: t).length → SrtA (n :: t) p := by
    intro p hp
    cases p with
    | zero =>
      intro i hi
      rw [show opA (n :: t) 0 = n.op from rfl] at hi ⊢
      rw [o2] at hi
      obtain rfl : i = 0 := by omega
      rw [plA, show (0 + 1) = 1 + 0 from rfl, up_op, h1, o3]
    | succ p =>
      rw [Nat.add_comm]
      exact up_srt k2 (by simpa using hp) (k4 p (by simpa using hp))
  refine ⟨fun hd12 => ?_, fun hd12 => ?_, k5, hd⟩
  · unfold ofK
    rw [if_neg (by simp; omega), if_neg (fun x => x hw), if_neg (fun x => x f3), if_neg (fun x => x f4), if_pos (by rw [hd]; omega)]
  · rw [ofK_yes (by simp; omega) hw f3 f4 (by rw [hd]; omega), show opA (n :: t) 0 = n.op from rfl, o1]
theorem up_chk {t : List Nd} : (ofK t = (2, 0) → chkK t = 0) := by
  intro h
  unfold chkK
  rw [h]; rfl
theorem hz_ge (t : List Nd) : ∀ k, -1 ≤ hzN t k
  | 0 => Int.le_refl _
  | k + 1 => by
    have := hz_ge t k
    rw [hzN]
    split
    · omega
    · split <;> omega
theorem up_hz (n : Nd) (t : List Nd) : ∀ k, hzN (n :: t) (k + 1) = max (hzN t k) (hzN (n :: t) 1)
  | 0 => by have := hz_ge (n :: t) 1; rw [Nat.zero_add, show hzN t 0 = -1 from rfl]; omega
  | k + 1 => by
    have ih := up_hz n t k
    rw [hzN, ih, show k + 1 = 1 + k from Nat.add_comm _ _, up_op, up_a, up_b, Nat.add_comm 1 k, show hzN t (k + 1) = if opA t k = 14 then max (hzN t k) (aA t k) else if opA t k = 17 then max (hzN t k) (bA t k) else hzN t k from rfl]
    split
    · omega
    · split <;> omega
theorem up_when {t : List Nd} {n : Nd} (h : n.op = 14) (ha : 0 ≤ n.a) (k : Nat) : hzN (n :: t) (k + 1) = max (hzN t k) n.a := by
  rw [up_hz, hzN, show opA (n :: t) 0 = n.op from rfl, if_pos h, show aA (n :: t) 0 = n.a from rfl, show hzN (n :: t) 0 = -1 from rfl]
  omega
theorem up_give {t : List Nd} {n : Nd} (h : n.op = 11) (k : Nat) : hzN (n :: t) (k + 1) = hzN t k := by
  have := hz_ge t k
  rw [up_hz, hzN, show opA (n :: t) 0 = n.op from rfl, if_neg (by rw [h]; decide), if_neg (by rw [h]; decide), show hzN (n :: t) 0 = -1 from rfl]
  omega
theorem up_is {n : Nd} {t : List Nd} {p : Int → Bool} (hp : p n.op = false) (m : Nat) : ∀ k, isN (n :: t) p m (k + 1) = isN t p m k
  | 0 => by
    show (false || (p n.op && decide (aA (n :: t) 0 = (m : Int)))) = false
    rw [hp]; rfl
  | k + 1 => by
    rw [isN, up_is hp m k, show k + 1 = 1 + k from Nat.add_comm _ _, up_op, up_a, Nat.add_comm 1 k, isN]
theorem up_ky {n : Nd} {t : List Nd} {p : Int → Bool} (hp : p n.op = false) : ∀ k, kyN (n :: t) p k = kyN t p k
  | 0 => rfl
  | k + 1 => by rw [kyN, kyN, up_ky hp k, List.length_cons, up_is hp]

/-- The places of the parts of what is joined. -/
def pcN (L : List (List Nd)) : Nat → List Int
  | 0 => []
  | k + 1 => pcN L k ++ [((1 + (L.take k).flatten.length : Nat) : Int)]
theorem pcN_len (L : List (List Nd)) : ∀ k, (pcN L k).length = k
  | 0 => rfl
  | k + 1 => by rw [pcN, List.length_append, pcN_len L k]; rfl
/-- What is joined, up to a part. -/
def jnN (n : Nd) (L : List (List Nd)) (k : Nat) : List Nd := n :: (L.take k).flatten
theorem jnN_zero (n : Nd) (L : List (List Nd)) : jnN n L 0 = [n] := by simp [jnN]
theorem jnN_all (n : Nd) (L : List (List Nd)) : jnN n L L.length = n :: L.flatten := by simp [jnN]
theorem jnN_succ (n : Nd) (L : List (List Nd)) (k : Nat) (h : k < L.length) : jnN n L (k + 1) = jnN n L k ++ L.getD k [] := by
  unfold jnN
  rw [List.take_add_one, List.getElem?_eq_getElem h, List.flatten_append, List.getD_eq_getElem?_getD, List.getElem?_eq_getElem h]
  simp
theorem jnN_len (n : Nd) (L : List (List Nd)) (k : Nat) : (jnN n L k).length = 1 + (L.take k).flatten.length := by unfold jnN; rw [List.length_cons]; omega
theorem jnN_mono (n : Nd) (L : List (List Nd)) {j k : Nat} (h : j ≤ k) : (jnN n L j).length ≤ (jnN n L k).length := by
  rw [jnN_len, jnN_len]
  obtain ⟨d, rfl⟩ : ∃ d, k = j + d := ⟨k - j, by omega⟩
  rw [List.take_add, List.flatten_append, List.length_append]; omega
open Classical in
/-- What Join tells. -/
noncomputable def jnK (n : Nd) (L : List (List Nd)) : Nat :=
  if (ofK (n :: L.flatten)).2 ≠ 0 then (ofK (n :: L.flatten)).2 else if pcN L L.length = plL (n :: L.flatten) 0 (cnO n.op) then 0 else 14
theorem jnK_great {n : Nd} {L : List (List Nd)} {k : Nat} (h : k ≤ L.length) (hg : 64 < (jnN n L k).length) : jnK n L = 15 := by
  have h1 := jnN_mono n L h
  rw [jnN_all] at h1
  have h2 : ofK (n :: L.flatten) = (0, 15) := by
    unfold ofK
    rw [if_pos (by omega)]
  unfold jnK
  rw [h2]; rfl

end Go.Proofs.YtadjhofomabbmaaDoor

/-
  chattelref01's Parts.
-/
import Derived.Test.YtedjbmmegjgegaaRefI
namespace Go.Proofs.Ytedjbmmegjgegaa
open Go.RowKit
set_option linter.unusedVariables false

/-- What the bits from one on come to. -/
def topV (x : Nat) (i : Int) : Nat := val ((bitsN x).drop (i + 1).toNat)
theorem topV_end (x : Nat) : topV x (-1) = x := by
  unfold topV
  rw [show ((-1 : Int) + 1).toNat = 0 from rfl, List.drop_zero, val_bitsN]
theorem topV_start (x : Nat) (m : Nat) (hm : m = (bitsN x).length) : topV x ((m : Int) - 1) = 0 := by
  unfold topV
  rw [List.drop_eq_nil_of_le (by omega)]; rfl
theorem topV_step (x k : Nat) : topV x ((k : Int) - 1) = ((bitsN x).getD k 0).toNat + 2 * topV x k := by
  unfold topV
  rw [show ((k : Int) - 1 + 1).toNat = k from by omega, show ((k : Int) + 1).toNat = k + 1 from by omega]
  exact val_drop _ _
theorem topV_le (x : Nat) (i : Int) : topV x i ≤ x := by
  have := val_drop_le (bitsN x) (i + 1).toNat
  rw [val_bitsN] at this; exact this

/-- Which bits the quotient has by now. -/
structure QuoI (x Y : Nat) (i : Int) (ql : List Int) : Prop where
  len : ql.length = (bitsN x).length
  low : ∀ t : Nat, (t : Int) ≤ i → ql.getD t 0 = 0
  bits : IsBits ql
  quo : val (ql.drop (i + 1).toNat) = topV x i / Y
theorem QuoI.start (x Y m : Nat) (hm : m = (bitsN x).length) : QuoI x Y ((m : Int) - 1) (List.replicate m 0) := by
  have hz : ∀ t : Nat, (List.replicate m (0 : Int)).getD t 0 = 0 := fun t => by
    rw [List.getD_eq_getElem?_getD, List.getElem?_replicate]; split <;> rfl
  refine ⟨by simp [hm], fun t _ => hz t, fun t => Or.inl (hz t), ?_⟩
  rw [topV_start x m hm, Nat.zero_div, List.drop_eq_nil_of_le (by rw [List.length_replicate]; omega)]; rfl
theorem getD_set (l : List Int) (k t : Nat) (v : Int) (hk : k < l.length) : (l.set k v).getD t 0 = if t = k then v else l.getD t 0 := by
  rw [List.getD_eq_getElem?_getD, List.getD_eq_getElem?_getD, List.getElem?_set]
  by_cases h : k = t
  · subst h; simp [hk]
  · rw [if_neg h, if_neg (fun e => h e.symm)]
theorem val_ext : ∀ (a b : List Int), (∀ t, a.getD t 0 = b.getD t 0) → val a = val b
  | [], b, h => (val_zero (l := b) (fun t => by have := h t; simp at this; simpa using this.symm)).symm ▸ rfl
  | x :: a, [], h => by
    have := val_zero (l := x :: a) (fun t => by have := h t; simpa using this)
    rw [this]; rfl
  | x :: a, y :: b, h => by
    have h0 : x = y := by have := h 0; simpa using this
    have h1 := val_ext a b (fun t => by have := h (t + 1); simpa using this)
    show x.toNat + 2 * val a = y.toNat + 2 * val b
    rw [h0, h1]
theorem getD_drop (l : List Int) (k t : Nat) : (l.drop k).getD t 0 = l.getD (k + t) 0 := by
  rw [List.getD_eq_getElem?_getD, List.getD_eq_getElem?_getD, List.getElem?_drop]

/-- One bit more, that is nought. -/
theorem QuoI.zero {x Y k : Nat} {ql : List Int} (h : QuoI x Y k ql) (hY : 0 < Y) (hlt : ((bitsN x).getD k 0).toNat + 2 * (topV x k % Y) < Y) : QuoI x Y ((k : Int) - 1) ql ∧ topV x ((k : Int) - 1) % Y = ((bitsN x).getD k 0).toNat + 2 * (topV x k % Y) := by
  have e : topV x ((k : Int) - 1) = (((bitsN x).getD k 0).toNat + 2 * (topV x k % Y)) + Y * (2 * (topV x k / Y)) := by
    rw [topV_step]
    have := Nat.div_add_mod (topV x k) Y
    have e2 : Y * (2 * (topV x k / Y)) = 2 * (Y * (topV x k / Y)) := by rw [Nat.mul_left_comm]
    omega
  refine ⟨⟨h.len, fun t ht => h.low t (by omega), h.bits, ?_⟩, ?_⟩
  · rw [show ((k : Int) - 1 + 1).toNat = k from by omega, val_drop, h.low k (Int.le_refl _), e, Nat.add_mul_div_left _ _ hY, Nat.div_eq_of_lt hlt]
    have := h.quo
    rw [show ((k : Int) + 1).toNat = k + 1 from by omega] at this
    rw [this]; simp
  · rw [e, Nat.add_mul_mod_self_left, Nat.mod_eq_of_lt hlt]
/-- One bit more, that is one. -/
theorem QuoI.one {x Y k : Nat} {ql : List Int} (h : QuoI x Y k ql) (hY : 0 < Y) (hk : k < (bitsN x).length) (hge : Y ≤ ((bitsN x).getD k 0).toNat + 2 * (topV x k % Y)) : QuoI x Y ((k : Int) - 1) (ql.set k 1) ∧ topV x ((k : Int) - 1) % Y = ((bitsN x).getD k 0).toNat + 2 * (topV x k % Y) - Y := by
  have hb : (bitsN x).getD k 0 = 0 ∨ (bitsN x).getD k 0 = 1 := bits_of_bitsN x k
  have hm : topV x k % Y < Y := Nat.mod_lt _ hY
  have hlt : ((bitsN x).getD k 0).toNat + 2 * (topV x k % Y) - Y < Y := by omega
  have e : topV x ((k : Int) - 1) = (((bitsN x).getD k 0).toNat + 2 * (topV x k % Y) - Y) + Y * (2 * (topV x k / Y) + 1) := by
    rw [topV_step]
    have := Nat.div_add_mod (topV x k) Y
    have e2 : Y * (2 * (topV x k / Y) + 1) = 2 * (Y * (topV x k / Y)) + Y := by rw [Nat.mul_add, Nat.mul_left_comm, Nat.mul_one]
    omega
  have hkq : k < ql.length := by rw [h.len]; exact hk
  refine ⟨⟨by rw [List.length_set]; exact h.len, fun t ht => ?_, fun t => ?_, ?_⟩, ?_⟩
  · rw [getD_set _ _ _ _ hkq, if_neg (by omega)]; exact h.low t (by omega)
  · rw [getD_set _ _ _ _ hkq]; split
    · exact Or.inr rfl
    · exact h.bits t
  · have hq := h.quo
    rw [show ((k : Int) + 1).toNat = k + 1 from by omega] at hq
    rw [show ((k : Int) - 1 + 1).toNat = k from by omega, val_drop, getD_set _ _ _ _ hkq, if_pos rfl, e, Nat.add_mul_div_left _ _ hY, Nat.div_eq_of_lt hlt]
    have e3 : val ((ql.set k 1).drop (k + 1)) = val (ql.drop (k + 1)) := val_ext _ _ (fun t => by
      rw [getD_drop, getD_drop, getD_set _ _ _ _ hkq, if_neg (by omega)])
    rw [e3, hq]
    show 1 + 2 * (topV x k / Y) = 0 + (2 * (topV x k / Y) + 1)
    omega
  · rw [e, Nat.add_mul_mod_self_left, Nat.mod_eq_of_lt hlt]
theorem QuoI.done {x Y : Nat} {ql : List Int} (h : QuoI x Y (-1) ql) : val ql = x / Y ∧ topV x (-1) % Y = x % Y := by
  have := h.quo
  rw [show ((-1 : Int) + 1).toNat = 0 from rfl, List.drop_zero, topV_end] at this
  exact ⟨this, by rw [topV_end]⟩

end Go.Proofs.Ytedjbmmegjgegaa

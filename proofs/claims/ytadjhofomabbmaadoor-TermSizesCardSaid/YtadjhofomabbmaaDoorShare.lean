/-
  amount.share and amount.Split: which parts there are, and where they lie.
-/
import Derived.Test.YtadjhofomabbmaaDoorShareA
import Derived.Test.YtadjhofomabbmaaDoorGive
namespace Go.Proofs.YtadjhofomabbmaaDoor
open Go.RowKit Go.Sort
set_option linter.unusedVariables false

/-- Where the cutting stands: the parts lie at pb, what was cut off at pb + 1. -/
structure ShareInv (q r : Nat → Int) (w : World) (n k : Nat) (wx : World) : Prop where
  below : Below w.heap.size w wx
  size : wx.heap.size = w.heap.size + 2
  par : ∀ t, t < n → wx.cell? ⟨w.heap.size, 0 + t, none⟩ = some (.int .i64 (if t < k then q t else 0))
  parf : ∀ t, t < n → wx.frozen? ⟨w.heap.size, 0 + t, none⟩ = false
  cut : ∀ t, t < n → wx.cell? ⟨w.heap.size + 1, 0 + t, none⟩ = some (.int .u64 (if t < k then r t else 0))
  cutf : ∀ t, t < n → wx.frozen? ⟨w.heap.size + 1, 0 + t, none⟩ = false

theorem ShareInv.step {q r : Nat → Int} {w wx : World} {n k : Nat} (h : ShareInv q r w n k wx) (hk : k < n) :
    ShareInv q r w n (k + 1) ((wx.setCell ⟨w.heap.size, k, none⟩ (.int .i64 (q k))).setCell ⟨w.heap.size + 1, k, none⟩ (.int .u64 (r k))) := by
  refine ⟨(h.below.setCell (Nat.le_refl _) _).setCell (Nat.le_succ _) _, by simp [h.size], fun t ht => ?_, fun t ht => ?_, fun t ht => ?_, fun t ht => ?_⟩
  · rw [cell_other (addr_ne_block (by omega)), Nat.zero_add]
    by_cases e : t = k
    · subst e
      have := h.par t ht
      rw [Nat.zero_add] at this
      rw [cell_same this, if_pos (by omega)]
    · have := h.par t ht
      rw [Nat.zero_add] at this
      rw [cell_other (addr_ne_off (by omega)), this]
      by_cases c : t < k
      · rw [if_pos c, if_pos (by omega)]
      · rw [if_neg c, if_neg (by omega)]
  · rw [World.frozen?_setCell, World.frozen?_setCell]; exact h.parf t ht
  · rw [Nat.zero_add]
    have := h.cut t ht
    rw [Nat.zero_add] at this
    by_cases e : t = k
    · subst e
      rw [cell_same (u := .int .u64 (if t < t then r t else 0)) (by rw [cell_other (addr_ne_block (by omega))]; exact this), if_pos (by omega)]
    · rw [cell_other (addr_ne_off (by omega)), cell_other (addr_ne_block (by omega)), this]
      by_cases c : t < k
      · rw [if_pos c, if_pos (by omega)]
      · rw [if_neg c, if_neg (by omega)]
  · rw [World.frozen?_setCell, World.frozen?_setCell]; exact h.cutf t ht

theorem ShareInv.drewN {q r : Nat → Int} {w wx : World} {n k : Nat} (h : ShareInv q r w n k wx) (m : Nat) : ShareInv q r w n k (wx.drewN m) :=
  ⟨⟨h.below.os, h.below.tape, h.below.output, h.below.size, h.below.block⟩, h.size, h.par, h.parf, h.cut, h.cutf⟩

theorem ShareInv.start (q r : Nat → Int) (w : World) (n : Nat) (e e' : TypeId) :
    ShareInv q r w n 0 ((w.alloc (.cells (madeCells #[.int .i64 0] n) e)).alloc (.cells (madeCells #[.int .u64 0] n) e')) := by
  have hs : (w.alloc (.cells (madeCells #[.int .i64 0] n) e)).heap.size = w.heap.size + 1 := by simp
  refine ⟨Below.alloc (Below.alloc (Below.refl _ w) (Nat.le_refl _) _) (by simp) _, by simp, fun t ht => ?_, fun t ht => ?_, fun t ht => ?_, fun t ht => ?_⟩
  · rw [World.cell?_alloc_past _ _ _ (by rw [hs]; omega), made_at _ _ _ _ _ ht, if_neg (by omega)]
  · rw [World.frozen?_alloc_past _ _ _ (by rw [hs]; omega)]; exact World.frozen?_alloc_at _ _ _ _ rfl
  · have := made_at (w.alloc (.cells (madeCells #[.int .i64 0] n) e)) n (.int .u64 0) e' t ht
    rw [hs] at this
    rw [this, if_neg (by omega)]
  · exact World.frozen?_alloc_at _ _ _ _ hs.symm

theorem Tryd.infoU : (Tryd.prog.info? 86).map (fun i => (i.zero, i.size, i.bytes)) = some (some (.int .u64 0), 1, 8) := by kernel_rfl

theorem divQ_mul (x y s : Int) : divQ (mulHi x y) (mulLo x y) s = x * y / s := by unfold divQ mulHi mulLo; rw [hl_back]
theorem divR_mul (x y s : Int) : divR (mulHi x y) (mulLo x y) s = x * y % s := by unfold divR mulHi mulLo; rw [hl_back]
theorem mulHi_lt (x y s : Int) (hx0 : 0 ≤ x) (hx : x ≤ 9223372036854775807) (hy : 0 ≤ y) (hys : y ≤ s) (hs : 0 < s) : 0 ≤ mulHi x y ∧ mulHi x y < s := by
  have h0 : 0 ≤ x * y := Int.mul_nonneg hx0 hy
  have h1 : x * y ≤ 9223372036854775807 * s := Int.mul_le_mul hx hys hy (by omega)
  unfold mulHi; omega

/-- What the parts are, behind the giving. -/
def SharePost (T : Int) (l : List Int) (w : World) (e : Ending) (w' : World) : Prop :=
  e = .returned (.slice (some ⟨w.heap.size, 0, none⟩) l.length l.length) ∧ ∃ d : Array Int, d.size = l.length ∧ Seg (fun x => rF T (sumL l) l x.toNat) 0 l.length d ∧ Below w.heap.size w w' ∧ w.heap.size < w'.heap.size ∧
    (∀ t, t < l.length → w'.cell? ⟨w.heap.size, 0 + t, none⟩ = some (.int .i64 (addK (qF T (sumL l) l) d (T - sumF (qF T (sumL l) l) l.length).toNat t))) ∧ ∀ t, t < l.length → w'.frozen? ⟨w.heap.size, 0 + t, none⟩ = false

/-- What Split answers: the parts of a total that is not below nought. -/
def partF (T : Int) (l : List Int) (d : Array Int) (t : Nat) : Int := addK (qF T (sumL l) l) d (T - sumF (qF T (sumL l) l) l.length).toNat t
/-- The order in which what is left is given away. -/
def Ordered (T : Int) (l : List Int) (d : Array Int) : Prop := d.size = l.length ∧ Seg (fun x => rF T (sumL l) l x.toNat) 0 l.length d

/-- Parts that lie in new memory. -/
def SplitPost (T : Int) (l : List Int) (w : World) (e : Ending) (w' : World) : Prop :=
  e = .returned (.tuple #[.slice (some ⟨w.heap.size, 0, none⟩) l.length l.length, .int .i64 0]) ∧ ∃ d : Array Int, Ordered (absI T) l d ∧ Below w.heap.size w w' ∧ w.heap.size < w'.heap.size ∧
    ∀ t, t < l.length → w'.cell? ⟨w.heap.size, 0 + t, none⟩ = some (.int .i64 (sgn (decide (T < 0)) (partF (absI T) l d t)))

theorem addK_bd (P : Nat → Int) (d : Array Int) (t : Nat) : ∀ k, P t ≤ addK P d k t ∧ addK P d k t ≤ P t + k
  | 0 => by simp [addK]
  | k + 1 => by
    have := addK_bd P d t k
    show P t ≤ addK P d k t + (if (t : Int) = d[k]! then 1 else 0) ∧ addK P d k t + (if (t : Int) = d[k]! then 1 else 0) ≤ P t + ((k + 1 : Nat) : Int)
    split <;> omega

theorem partF_bd {T : Int} {l : List Int} {d : Array Int} (hT : 0 ≤ T) (hS : 0 < sumL l) (h : NonNeg l) {t : Nat} (ht : t < l.length) : 0 ≤ partF T l d t ∧ partF T l d t ≤ T := by
  have h1 := qF_nonneg (S := sumL l) hT hS h t
  have h2 := sumq_mono (S := sumL l) (k := l.length) (j := t + 1) hT hS h ht
  have h3 := sumq_mono (S := sumL l) (k := t) (j := 0) hT hS h (Nat.zero_le _)
  have h4 := addK_bd (qF T (sumL l) l) d t (T - sumF (qF T (sumL l) l) l.length).toNat
  have h5 := (sumq_le (T := T) hT hS h (Nat.le_refl l.length)).2
  simp only [sumF] at h2 h3
  unfold partF
  omega


end Go.Proofs.YtadjhofomabbmaaDoor

/-
  slices.Min at []int, and amount.weigh.
-/
import Derived.Test.YtjafbfepdmgjnaaGreatDoorLo
import Derived.WalkLawsBesides
import Derived.Test.YtjafbfepdmgjnaaGreatDoorDv
import Derived.Sort.Row
import Derived.Sort.LotA
import Derived.CellFam
import Derived.BigGuard
import Derived.BigCall
import Derived.RegionTactic
import Derived.BigRegion
import Derived.Deep.Draws
import Derived.Deep.QuietTactic
import Derived.BigQuiet
import Derived.Deep.CutBlock
import Derived.Deep.Cut
import Derived.Deep.CutRange
import Derived.Deep.DeepCutAuto
import Derived.Deep.OwnRows
import Derived.Below
import Derived.WalkMore
import Derived.Deep.LoopGhost
namespace Go.Proofs.YtjafbfepdmgjnaaGreatDoor
open Go.RowKit
set_option linter.unusedVariables false

/-- The least of the first numbers, and one more. -/
def minK (l : List Int) : Nat → Int
  | 0 => l.getD 0 0
  | k + 1 => min (minK l k) (l.getD (k + 1) 0)

theorem minK_neg (l : List Int) : ∀ k, minK l k < 0 ↔ ∃ t, t ≤ k ∧ l.getD t 0 < 0
  | 0 => ⟨fun h => ⟨0, Nat.le_refl _, h⟩, fun ⟨t, h1, h2⟩ => by
      have e : t = 0 := by omega
      subst e
      exact h2⟩
  | k + 1 => by
    have ih := minK_neg l k
    simp only [minK]
    constructor
    · intro h
      by_cases c : minK l k < 0
      · obtain ⟨t, h1, h2⟩ := ih.1 c; exact ⟨t, by omega, h2⟩
      · exact ⟨k + 1, Nat.le_refl _, by omega⟩
    · rintro ⟨t, h1, h2⟩
      by_cases c : t = k + 1
      · subst c; omega
      · have := ih.2 ⟨t, by omega, h2⟩; omega

end Go.Proofs.YtjafbfepdmgjnaaGreatDoor

namespace Go.Proofs.YtjafbfepdmgjnaaGreatDoor
open Go.RowKit
set_option linter.unusedVariables false

def qF (T S : Int) (l : List Int) (t : Nat) : Int := T * l.getD t 0 / S
def rF (T S : Int) (l : List Int) (t : Nat) : Int := T * l.getD t 0 % S
def sumF (f : Nat → Int) : Nat → Int
  | 0 => 0
  | k + 1 => sumF f k + f k

def NonNeg (l : List Int) : Prop := ∀ t, 0 ≤ l.getD t 0
theorem NonNeg.of {l : List Int} (h : ∀ t, t < l.length → 0 ≤ l.getD t 0) : NonNeg l := fun t => by
  by_cases c : t < l.length
  · exact h t c
  · rw [List.getD_eq_getElem?_getD, List.getElem?_eq_none (by omega)]; exact Int.le_refl _

theorem sumK_mono {l : List Int} (h : NonNeg l) {j k : Nat} (hjk : j ≤ k) : sumK l j ≤ sumK l k := by
  induction k with
  | zero => obtain rfl : j = 0 := by omega
            exact Int.le_refl _
  | succ k ih =>
    by_cases e : j = k + 1
    · subst e; exact Int.le_refl _
    · have := ih (by omega); have := h k; simp only [sumK]; omega
theorem sumK_nonneg {l : List Int} (h : NonNeg l) (k : Nat) : 0 ≤ sumK l k := sumK_mono h (Nat.zero_le k)
theorem getD_le_sum {l : List Int} (h : NonNeg l) {t : Nat} (ht : t < l.length) : l.getD t 0 ≤ sumL l := by
  have h1 : sumK l (t + 1) ≤ sumL l := sumK_mono h ht
  have h2 := sumK_nonneg h t
  simp only [sumK] at h1; omega

theorem parts_eq (T S : Int) (l : List Int) (k : Nat) : S * sumF (qF T S l) k + sumF (rF T S l) k = T * sumK l k := by
  induction k with
  | zero => simp [sumF, sumK]
  | succ k ih =>
    have h := Int.mul_ediv_add_emod (T * l.getD k 0) S
    simp only [sumF, sumK, Int.mul_add]
    show S * sumF (qF T S l) k + S * (T * l.getD k 0 / S) + (sumF (rF T S l) k + T * l.getD k 0 % S) = _
    omega

theorem rF_bd {T S : Int} {l : List Int} (hS : 0 < S) (t : Nat) : 0 ≤ rF T S l t ∧ rF T S l t < S := ⟨Int.emod_nonneg _ (by omega), Int.emod_lt_of_pos _ hS⟩
theorem sumr_bd {T S : Int} {l : List Int} (hS : 0 < S) : ∀ k : Nat, 0 ≤ sumF (rF T S l) k ∧ sumF (rF T S l) k ≤ S * k - k
  | 0 => by simp [sumF]
  | k + 1 => by
    have := sumr_bd (T := T) (l := l) hS k; have := rF_bd (T := T) (l := l) hS k
    simp only [sumF, Int.natCast_add, Int.mul_add]; omega
theorem qF_nonneg {T S : Int} {l : List Int} (hT : 0 ≤ T) (hS : 0 < S) (h : NonNeg l) (t : Nat) : 0 ≤ qF T S l t := Int.ediv_nonneg (Int.mul_nonneg hT (h t)) (by omega)
theorem sumq_mono {T S : Int} {l : List Int} (hT : 0 ≤ T) (hS : 0 < S) (h : NonNeg l) {j k : Nat} (hjk : j ≤ k) : sumF (qF T S l) j ≤ sumF (qF T S l) k := by
  induction k with
  | zero => obtain rfl : j = 0 := by omega
            exact Int.le_refl _
  | succ k ih =>
    by_cases e : j = k + 1
    · subst e; exact Int.le_refl _
    · have := ih (by omega); have := qF_nonneg hT hS h k; simp only [sumF]; omega
theorem sumq_le {T : Int} {l : List Int} (hT : 0 ≤ T) (hS : 0 < sumL l) (h : NonNeg l) {k : Nat} (hk : k ≤ l.length) : 0 ≤ sumF (qF T (sumL l) l) k ∧ sumF (qF T (sumL l) l) k ≤ T := by
  refine ⟨sumq_mono (k := k) hT hS h (Nat.zero_le k), ?_⟩
  have e := parts_eq T (sumL l) l k
  have r := (sumr_bd (T := T) (l := l) hS k).1
  have m : T * sumK l k ≤ T * sumL l := Int.mul_le_mul_of_nonneg_left (sumK_mono h hk) hT
  have : sumL l * sumF (qF T (sumL l) l) k ≤ sumL l * T := by rw [Int.mul_comm (sumL l) T]; omega
  exact Int.le_of_mul_le_mul_left this hS
/-- What is left is less than there are parts. -/
theorem left_lt {T : Int} {l : List Int} (hT : 0 ≤ T) (hS : 0 < sumL l) (h : NonNeg l) (h0 : 0 < l.length) : 0 ≤ T - sumF (qF T (sumL l) l) l.length ∧ T - sumF (qF T (sumL l) l) l.length < l.length := by
  refine ⟨by have := (sumq_le hT hS h (Nat.le_refl l.length)).2; omega, ?_⟩
  have e := parts_eq T (sumL l) l l.length
  have r := (sumr_bd (T := T) (l := l) hS l.length).2
  have e2 : sumL l * (T - sumF (qF T (sumL l) l) l.length) = sumF (rF T (sumL l) l) l.length := by
    rw [Int.mul_sub, Int.mul_comm (sumL l) T]
    have : T * sumK l l.length = T * sumL l := rfl
    omega
  apply Int.lt_of_mul_lt_mul_left (a := sumL l) _ (by omega)
  rw [e2]; omega

end Go.Proofs.YtjafbfepdmgjnaaGreatDoor

namespace Go.Proofs.YtjafbfepdmgjnaaGreatDoor
open Go.RowKit Go.Sort
set_option linter.unusedVariables false

/-- The world with the row laid, so many draws on. -/
def rowW (w : World) (blk off n : Nat) (d : Array Int) : World := putRow (Value.int .i64) (Sort.ahead w n) blk off d

theorem rowW_start {w : World} {blk off : Nat} {d : Array Int} (h : Holds (Value.int .i64) w blk off d) : w = rowW w blk off 0 d := (putRow_self _ _ _ _ _ h).symm
theorem rowW_cell {w : World} {blk off n : Nat} {d d' : Array Int} (h : Holds (Value.int .i64) w blk off d) (hs : d'.size = d.size) (t : Nat) (ht : t < d.size) :
    (rowW w blk off n d').cell? ⟨blk, off + t, none⟩ = some (.int .i64 d'[t]!) := cell?_putRow _ _ _ _ d d' (holds_ahead _ _ _ _ _ _ h) hs t (by omega)
theorem rowW_frozen {w : World} {blk off n : Nat} {d d' : Array Int} (h : Holds (Value.int .i64) w blk off d) (t : Nat) (ht : t < d.size) :
    (rowW w blk off n d').frozen? ⟨blk, off + t, none⟩ = false := by unfold rowW; rw [frozen?_putRow]; exact ((holds_ahead _ _ n _ _ _ h) t ht).2
theorem rowW_drewN (w : World) (blk off n q : Nat) (d : Array Int) : (rowW w blk off n d).drewN q = rowW w blk off (n + q) d := by
  show Sort.ahead (putRow _ (Sort.ahead w n) blk off d) q = _
  unfold rowW
  rw [putRow_ahead _ w n, ahead_ahead, ← putRow_ahead]
theorem rowW_swap (w : World) (blk off n q : Nat) (d : Array Int) (j k : Nat) (hj : j < d.size) (hk : k < d.size) :
    (((rowW w blk off n d).drewN q).setCell ⟨blk, off + j, none⟩ (.int .i64 d[k]!)).setCell ⟨blk, off + k, none⟩ (.int .i64 d[j]!) = rowW w blk off (n + q) (swp d j k) := by
  rw [rowW_drewN]
  exact putRow_swp (Value.int .i64) _ blk off d j k hj hk

def ltC (cf : Int → Int → Int) (x y : Int) : Bool := decide (cf x y < 0)

theorem insInner_goI (lt : Int → Int → Bool) (a j : Nat) (d : Array Int) (hj : a < j) (hl : lt d[j]! d[j - 1]! = true) : insInner lt a j d = insInner lt a (j - 1) (swp d j (j - 1)) := by
  obtain ⟨k, rfl⟩ : ∃ k, j = k + 1 := ⟨j - 1, by omega⟩
  rw [insInner]
  simp only [Nat.add_sub_cancel] at hl ⊢
  simp [hj, hl]
theorem insInner_stopI (lt : Int → Int → Bool) (a j : Nat) (d : Array Int) (h : j ≤ a ∨ lt d[j]! d[j - 1]! = false) : insInner lt a j d = d := by
  cases j with
  | zero => rw [insInner]
  | succ k =>
    rw [insInner]
    simp only [Nat.add_sub_cancel] at h
    rcases h with h | h
    · simp [show ¬ k + 1 > a by omega]
    · simp [h]

theorem insOuter_goI (lt : Int → Int → Bool) (a b i : Nat) (d : Array Int) (h : i < b) : insOuter lt a b i d = insOuter lt a b (i + 1) (insInner lt a i d) := by rw [insOuter, if_pos h]
theorem swp_all {V : Int → Prop} {d : Array Int} {N i j : Nat} (hN : d.size = N) (h : ∀ t, t < N → V d[t]!) (hi : i < N) (hj : j < N) : ∀ t, t < N → V (swp d i j)[t]! := by
  intro t ht
  by_cases h1 : t = j
  · subst h1; rw [swp_right d i t (by omega)]; exact h i hi
  · by_cases h2 : t = i
    · subst h2; rw [swp_left d t j (by omega) h1]; exact h j hj
    · rw [swp_other d i j t h2 h1]; exact h t ht

end Go.Proofs.YtjafbfepdmgjnaaGreatDoor

namespace Go.Proofs.YtjafbfepdmgjnaaGreatDoor
open Go.Sort
set_option linter.unusedVariables false

/-- Two ranges of a row, exchanged place by place. -/
def swpRange (d : Array Int) (a b : Nat) : Nat → Array Int
  | 0 => d
  | n + 1 => swp (swpRange d a b n) (a + n) (b + n)

theorem size_swpRange (d : Array Int) (a b : Nat) : ∀ n, (swpRange d a b n).size = d.size
  | 0 => rfl
  | n + 1 => by rw [swpRange, size_swp, size_swpRange d a b n]

theorem swpRange_at (d : Array Int) (a b : Nat) : ∀ n, a + n ≤ b → b + n ≤ d.size → ∀ t,
    (swpRange d a b n)[t]! = d[if a ≤ t ∧ t < a + n then t + (b - a) else if b ≤ t ∧ t < b + n then t - (b - a) else t]!
  | 0, _, _, t => by rw [swpRange, if_neg (by omega), if_neg (by omega)]
  | n + 1, h1, h2, t => by
    have ih := swpRange_at d a b n (by omega) (by omega)
    have hs := size_swpRange d a b n
    rw [swpRange]
    by_cases e1 : t = b + n
    · subst e1
      rw [swp_right _ _ _ (by omega), ih, if_neg (by omega), if_neg (by omega), if_neg (by omega), if_pos (by omega)]
      congr 1; omega
    · by_cases e2 : t = a + n
      · subst e2
        rw [swp_left _ _ _ (by omega) (by omega), ih, if_neg (by omega), if_neg (by omega), if_pos (by omega)]
        congr 1; omega
      · rw [swp_other _ _ _ _ e2 e1, ih]
        congr 1
        repeat' split
        all_goals omega

theorem swpRange_perm (d : Array Int) (a b lo hi : Nat) : ∀ n, lo ≤ a → a + n ≤ b → b + n ≤ hi → hi ≤ d.size → PermIn lo hi d (swpRange d a b n)
  | 0, _, _, _, _ => permIn_refl _ _ _
  | n + 1, h1, h2, h3, h4 => permIn_trans _ _ _ _ _ (swpRange_perm d a b lo hi n h1 (by omega) (by omega) h4)
      (swp_permIn _ _ _ _ _ (by omega) (by omega) (by omega) (by omega) (by rw [size_swpRange]; exact h4))

/-- Where a place's value was, ahead of the turn of two blocks. -/
def rotIx (a m b t : Nat) : Nat := if t < a ∨ b ≤ t then t else if t < a + (b - m) then m + (t - a) else t - (b - m)

/-- d' is d, the blocks [a, m) and [m, b) the other way round. -/
def RotOf (a m b : Nat) (d d' : Array Int) : Prop := d'.size = d.size ∧ ∀ t, d'[t]! = d[rotIx a m b t]!

theorem RotOf.even (d : Array Int) (m i : Nat) (hi : i ≤ m) (hb : m + i ≤ d.size) : RotOf (m - i) m (m + i) d (swpRange d (m - i) m i) := by
  refine ⟨size_swpRange _ _ _ _, fun t => ?_⟩
  rw [swpRange_at d (m - i) m i (by omega) hb t]
  congr 1
  unfold rotIx
  by_cases c1 : m - i ≤ t ∧ t < m - i + i
  · rw [if_pos c1, if_neg (by omega), if_pos (by omega)]; omega
  · rw [if_neg c1]
    by_cases c2 : m ≤ t ∧ t < m + i
    · rw [if_pos c2, if_neg (by omega), if_neg (by omega)]; omega
    · rw [if_neg c2, if_pos (by omega)]

theorem RotOf.left {d d' : Array Int} {m i j : Nat} (hji : j < i) (hj : 0 < j) (hi : i ≤ m) (hb : m + j ≤ d.size)
    (h : RotOf (m - (i - j)) m (m + j) (swpRange d (m - i) m j) d') : RotOf (m - i) m (m + j) d d' := by
  refine ⟨h.1.trans (size_swpRange _ _ _ _), fun t => ?_⟩
  rw [h.2 t, swpRange_at d (m - i) m j (by omega) hb]
  congr 1
  unfold rotIx
  repeat' split
  all_goals omega

theorem RotOf.right {d d' : Array Int} {m i j : Nat} (hij : i < j) (hi0 : 0 < i) (hi : i ≤ m) (hb : m + j ≤ d.size)
    (h : RotOf (m - i) m (m + (j - i)) (swpRange d (m - i) (m + j - i) i) d') : RotOf (m - i) m (m + j) d d' := by
  refine ⟨h.1.trans (size_swpRange _ _ _ _), fun t => ?_⟩
  rw [h.2 t, swpRange_at d (m - i) (m + j - i) i (by omega) (by omega)]
  congr 1
  unfold rotIx
  repeat' split
  all_goals omega

/-- The order: by a key, falling, then by the number itself. -/
def pr (κ : Int → Int) (x y : Int) : Prop := κ y < κ x ∨ (κ x = κ y ∧ x < y)
theorem pr_trans {κ : Int → Int} {x y z : Int} (h : pr κ x y) (g : pr κ y z) : pr κ x z := by unfold pr at *; omega
def SrtM (κ : Int → Int) (a b : Nat) (d : Array Int) : Prop := ∀ i j, a ≤ i → i < j → j < b → pr κ d[i]! d[j]!
/-- Numbers of the first part are less than those of the second. -/
def Apt (a m b : Nat) (d : Array Int) : Prop := ∀ i j, a ≤ i → i < m → m ≤ j → j < b → d[i]! < d[j]!
theorem pr_of_lt {κ : Int → Int} {x y : Int} (h : κ y < κ x) : pr κ x y := Or.inl h
theorem pr_of_not {κ : Int → Int} {x y : Int} (h : ¬ κ y < κ x) (hx : y < x) : pr κ y x := by unfold pr; omega

theorem SrtM.le {κ : Int → Int} {a b : Nat} {d : Array Int} (h : SrtM κ a b d) {i j : Nat} (hi : a ≤ i) (hij : i ≤ j) (hj : j < b) {z : Int} (hz : pr κ d[j]! z) : pr κ d[i]! z := by
  by_cases e : i = j
  · subst e; exact hz
  · exact pr_trans (h i j hi (by omega) hj) hz
theorem SrtM.ge {κ : Int → Int} {a b : Nat} {d : Array Int} (h : SrtM κ a b d) {i j : Nat} (hi : a ≤ i) (hij : i ≤ j) (hj : j < b) {z : Int} (hz : pr κ z d[i]!) : pr κ z d[j]! := by
  by_cases e : i = j
  · subst e; exact hz
  · exact pr_trans hz (h i j hi (by omega) hj)

/-- One number, put into a sorted part behind it. -/
theorem merge_first {κ : Int → Int} {a b i : Nat} {d d' : Array Int} (hs : SrtM κ (a + 1) b d) (hA : Apt a (a + 1) b d) (hi0 : a + 1 ≤ i) (hib : i ≤ b)
    (hl : i = a + 1 ∨ κ d[a]! < κ d[i - 1]!) (hr : i = b ∨ ¬ κ d[a]! < κ d[i]!) (h : RotOf a (a + 1) i d d') : SrtM κ a b d' := by
  have hx : ∀ t, a ≤ t → t < i - 1 → d'[t]! = d[t + 1]! := fun t h1 h2 => by
    rw [h.2 t]; congr 1; unfold rotIx; rw [if_neg (by omega), if_pos (by omega)]; omega
  have hy : d'[i - 1]! = d[a]! := by
    rw [h.2]; congr 1; unfold rotIx; rw [if_neg (by omega), if_neg (by omega)]; omega
  have hz : ∀ t, i ≤ t → d'[t]! = d[t]! := fun t h1 => by
    rw [h.2 t]; congr 1; unfold rotIx; rw [if_pos (by omega)]
  have below : ∀ t, a + 1 ≤ t → t < i → pr κ d[t]! d[a]! := fun t h1 h2 => by
    rcases hl with hl | hl
    · omega
    · exact hs.le h1 (by omega) (by omega) (pr_of_lt hl) (j := i - 1)
  have above : ∀ t, i ≤ t → t < b → pr κ d[a]! d[t]! := fun t h1 h2 => by
    rcases hr with hr | hr
    · omega
    · exact hs.ge hi0 h1 h2 (pr_of_not hr (hA a i (by omega) (by omega) (by omega) (by omega)))
  intro p q hp hpq hq
  by_cases q1 : q < i - 1
  · rw [hx p hp (by omega), hx q (by omega) q1]; exact hs _ _ (by omega) (by omega) (by omega)
  · by_cases q2 : q = i - 1
    · subst q2; rw [hx p hp hpq, hy]; exact below _ (by omega) (by omega)
    · rw [hz q (by omega)]
      by_cases p1 : p < i - 1
      · rw [hx p hp p1]; exact pr_trans (below _ (by omega) (by omega)) (above q (by omega) hq)
      · by_cases p2 : p = i - 1
        · subst p2; rw [hy]; exact above q (by omega) hq
        · rw [hz p (by omega)]; exact hs _ _ (by omega) hpq hq

/-- One number, put into a sorted part ahead of it. -/
theorem merge_last {κ : Int → Int} {a m i : Nat} {d d' : Array Int} (hs : SrtM κ a m d) (hA : Apt a m (m + 1) d) (hi0 : a ≤ i) (him : i ≤ m)
    (hl : i = a ∨ ¬ κ d[i - 1]! < κ d[m]!) (hr : i = m ∨ κ d[i]! < κ d[m]!) (h : RotOf i m (m + 1) d d') : SrtM κ a (m + 1) d' := by
  have hx : ∀ t, t < i → d'[t]! = d[t]! := fun t h1 => by
    rw [h.2 t]; congr 1; unfold rotIx; rw [if_pos (by omega)]
  have hy : d'[i]! = d[m]! := by
    rw [h.2]; congr 1; unfold rotIx; rw [if_neg (by omega), if_pos (by omega)]; omega
  have hz : ∀ t, i < t → t < m + 1 → d'[t]! = d[t - 1]! := fun t h1 h2 => by
    rw [h.2 t]; congr 1; unfold rotIx; rw [if_neg (by omega), if_neg (by omega)]; omega
  have below : ∀ t, a ≤ t → t < i → pr κ d[t]! d[m]! := fun t h1 h2 => by
    rcases hl with hl | hl
    · omega
    · exact hs.le h1 (by omega) (by omega) (pr_of_not hl (hA (i - 1) m (by omega) (by omega) (by omega) (by omega))) (j := i - 1)
  have above : ∀ t, i ≤ t → t < m → pr κ d[m]! d[t]! := fun t h1 h2 => by
    rcases hr with hr | hr
    · omega
    · exact hs.ge hi0 h1 h2 (pr_of_lt hr)
  intro p q hp hpq hq
  by_cases q1 : q < i
  · rw [hx p (by omega), hx q q1]; exact hs _ _ hp hpq (by omega)
  · by_cases q2 : q = i
    · subst q2; rw [hx p hpq, hy]; exact below _ hp hpq
    · rw [hz q (by omega) hq]
      by_cases p1 : p < i
      · rw [hx p p1]; exact pr_trans (below _ hp p1) (above _ (by omega) (by omega))
      · by_cases p2 : p = i
        · subst p2; rw [hy]; exact above _ (by omega) (by omega)
        · rw [hz p (by omega) (by omega)]; exact hs _ _ (by omega) (by omega) (by omega)

theorem RotOf.triv (a m b : Nat) (d : Array Int) (h : a = m ∨ m = b) : RotOf a m b d d := by
  refine ⟨rfl, fun t => ?_⟩
  congr 1
  unfold rotIx
  repeat' split
  all_goals omega

/-- What the search between two sorted parts found, and the row behind the turn. -/
structure Sym (κ : Int → Int) (a m b st : Nat) (d d1 : Array Int) : Prop where
  am : a < m
  mb : m < b
  s1 : SrtM κ a m d
  s2 : SrtM κ m b d
  ap : Apt a m b d
  big : (a + b) / 2 < m → (a + b) / 2 + m - b ≤ st ∧ st ≤ (a + b) / 2
  small : m ≤ (a + b) / 2 → a ≤ st ∧ st ≤ m
  hl : (m ≤ (a + b) / 2 ∧ st = a) ∨ ((a + b) / 2 < m ∧ st = (a + b) / 2 + m - b) ∨ (1 ≤ st ∧ a ≤ st - 1 ∧ ¬ κ d[st - 1]! < κ d[(a + b) / 2 + m - st]!)
  hr : (m ≤ (a + b) / 2 ∧ st = m) ∨ ((a + b) / 2 < m ∧ st = (a + b) / 2) ∨ κ d[st]! < κ d[(a + b) / 2 + m - 1 - st]!
  rot : RotOf st m ((a + b) / 2 + m - st) d d1

namespace Sym
variable {κ : Int → Int} {a m b st : Nat} {d d1 : Array Int}
theorem bounds (h : Sym κ a m b st d d1) : a ≤ st ∧ st ≤ m ∧ st ≤ (a + b) / 2 ∧ m ≤ (a + b) / 2 + m - st ∧ (a + b) / 2 + m - st ≤ b ∧ (a + b) / 2 ≤ (a + b) / 2 + m - st ∧ a ≤ (a + b) / 2 ∧ (a + b) / 2 < b := by
  have := h.am; have := h.mb
  by_cases c : (a + b) / 2 < m
  · have := h.big c; omega
  · have := h.small (by omega); omega
theorem at1 (h : Sym κ a m b st d d1) {t : Nat} (ht : t < st) : d1[t]! = d[t]! := by
  rw [h.rot.2]; congr 1; unfold rotIx; rw [if_pos (by omega)]
theorem at2 (h : Sym κ a m b st d d1) {t : Nat} (h1 : st ≤ t) (h2 : t < (a + b) / 2) : d1[t]! = d[m + (t - st)]! := by
  have := h.bounds
  rw [h.rot.2]; congr 1; unfold rotIx; rw [if_neg (by omega), if_pos (by omega)]
theorem at3 (h : Sym κ a m b st d d1) {t : Nat} (h1 : (a + b) / 2 ≤ t) (h2 : t < (a + b) / 2 + m - st) : d1[t]! = d[t - ((a + b) / 2 - st)]! := by
  have := h.bounds
  rw [h.rot.2]; congr 1; unfold rotIx; rw [if_neg (by omega), if_neg (by omega)]; omega
theorem at4 (h : Sym κ a m b st d d1) {t : Nat} (h1 : (a + b) / 2 + m - st ≤ t) : d1[t]! = d[t]! := by
  rw [h.rot.2]; congr 1; unfold rotIx; rw [if_pos (by omega)]

theorem f1 (h : Sym κ a m b st d d1) : SrtM κ a st d1 := fun i j h1 h2 h3 => by
  have := h.bounds
  rw [h.at1 (by omega), h.at1 (by omega)]; exact h.s1 _ _ h1 h2 (by omega)
theorem f2 (h : Sym κ a m b st d d1) : SrtM κ st ((a + b) / 2) d1 := fun i j h1 h2 h3 => by
  have := h.bounds
  rw [h.at2 h1 (by omega), h.at2 (by omega) h3]; exact h.s2 _ _ (by omega) (by omega) (by omega)
theorem f3 (h : Sym κ a m b st d d1) : Apt a st ((a + b) / 2) d1 := fun i j h1 h2 h3 h4 => by
  have := h.bounds
  rw [h.at1 h2, h.at2 h3 h4]; exact h.ap _ _ h1 (by omega) (by omega) (by omega)
theorem g1 (h : Sym κ a m b st d d1) : SrtM κ ((a + b) / 2) ((a + b) / 2 + m - st) d1 := fun i j h1 h2 h3 => by
  have := h.bounds
  rw [h.at3 h1 (by omega), h.at3 (by omega) h3]; exact h.s1 _ _ (by omega) (by omega) (by omega)
theorem g2 (h : Sym κ a m b st d d1) : SrtM κ ((a + b) / 2 + m - st) b d1 := fun i j h1 h2 h3 => by
  have := h.bounds
  rw [h.at4 h1, h.at4 (by omega)]; exact h.s2 _ _ (by omega) h2 h3
theorem g3 (h : Sym κ a m b st d d1) : Apt ((a + b) / 2) ((a + b) / 2 + m - st) b d1 := fun i j h1 h2 h3 h4 => by
  have := h.bounds
  rw [h.at3 h1 h2, h.at4 h3]; exact h.ap _ _ (by omega) (by omega) (by omega) h4

/-- All of the first half is ahead of all of the second one. -/
theorem cross (h : Sym κ a m b st d d1) : ∀ i j, a ≤ i → i < (a + b) / 2 → (a + b) / 2 ≤ j → j < b → pr κ d1[i]! d1[j]! := by
  have B := h.bounds
  intro i j h1 h2 h3 h4
  by_cases ci : i < st
  · rw [h.at1 ci]
    by_cases cj : j < (a + b) / 2 + m - st
    · rw [h.at3 h3 cj]; exact h.s1 _ _ h1 (by omega) (by omega)
    · rw [h.at4 (by omega)]
      rcases h.hl with hl | hl | ⟨hl0, hl1, hl⟩
      · omega
      · omega
      · refine h.s1.le h1 (show i ≤ st - 1 by omega) (by omega) ?_
        refine h.s2.ge (i := (a + b) / 2 + m - st) (by omega) (by omega) h4 ?_
        exact pr_of_not hl (h.ap _ _ hl1 (by omega) (by omega) (by omega))
  · rw [h.at2 (by omega) h2]
    by_cases cj : j < (a + b) / 2 + m - st
    · rw [h.at3 h3 cj]
      rcases h.hr with hr | hr | hr
      · omega
      · omega
      · refine h.s2.le (j := (a + b) / 2 + m - 1 - st) (by omega) (by omega) (by omega) ?_
        exact h.s1.ge (i := st) (by omega) (by omega) (by omega) (pr_of_lt hr)
    · rw [h.at4 (by omega)]; exact h.s2 _ _ (by omega) (by omega) h4

theorem half1 (h : Sym κ a m b st d d1) (hc : ¬ (a < st ∧ st < (a + b) / 2)) : SrtM κ a ((a + b) / 2) d1 := by
  have := h.bounds
  by_cases e : st = a
  · have := h.f2; rw [e] at this; exact this
  · have : st = (a + b) / 2 := by omega
    have := h.f1; rw [‹st = (a + b) / 2›] at this; exact this
theorem half2 (h : Sym κ a m b st d d1) (hc : ¬ ((a + b) / 2 < (a + b) / 2 + m - st ∧ (a + b) / 2 + m - st < b)) : SrtM κ ((a + b) / 2) b d1 := by
  have := h.bounds
  by_cases e : (a + b) / 2 + m - st = b
  · have := h.g1; rw [e] at this; exact this
  · have e2 : (a + b) / 2 + m - st = (a + b) / 2 := by omega
    have := h.g2; rw [e2] at this; exact this
end Sym

theorem SrtM.of_eq {κ : Int → Int} {a b : Nat} {d d' : Array Int} (h : SrtM κ a b d) (he : ∀ t, a ≤ t → t < b → d'[t]! = d[t]!) : SrtM κ a b d' := fun i j h1 h2 h3 => by
  rw [he i h1 (by omega), he j (by omega) h3]; exact h i j h1 h2 h3
theorem Apt.of_eq {a m b : Nat} {d d' : Array Int} (h : Apt a m b d) (he : ∀ t, a ≤ t → t < b → d'[t]! = d[t]!) (hm : a ≤ m) (hmb : m ≤ b) : Apt a m b d' := fun i j h1 h2 h3 h4 => by
  rw [he i h1 (by omega), he j (by omega) h4]; exact h i j h1 h2 h3 h4

/-- Both halves sorted: the whole is. -/
theorem halves {κ : Int → Int} {a mid b : Nat} {d1 d2 d3 : Array Int} (hb : b ≤ d1.size) (h1 : a ≤ mid) (h2 : mid ≤ b)
    (hx : ∀ i j, a ≤ i → i < mid → mid ≤ j → j < b → pr κ d1[i]! d1[j]!)
    (p2 : PermIn a mid d1 d2) (s2 : SrtM κ a mid d2) (p3 : PermIn mid b d2 d3) (s3 : SrtM κ mid b d3) : PermIn a b d1 d3 ∧ SrtM κ a b d3 := by
  refine ⟨permIn_trans _ _ _ _ _ (permIn_mono _ _ _ _ _ _ (Nat.le_refl _) h2 hb p2) (permIn_mono _ _ _ _ _ _ h1 (Nat.le_refl _) (by rw [p2.1]; exact hb) p3), ?_⟩
  have hx2 : ∀ i j, a ≤ i → i < mid → mid ≤ j → j < b → pr κ d2[i]! d1[j]! := fun i j i1 i2 j1 j2 =>
    permIn_all d1 d2 a mid (fun x => pr κ x d1[j]!) (by omega) p2 (fun t t1 t2 => hx t j t1 t2 j1 j2) i i1 i2
  have hx3 : ∀ i j, a ≤ i → i < mid → mid ≤ j → j < b → pr κ d2[i]! d3[j]! := fun i j i1 i2 j1 j2 =>
    permIn_all d2 d3 mid b (fun x => pr κ d2[i]! x) (by rw [p2.1]; exact hb) p3 (fun t t1 t2 => by rw [p2.2.1 t (Or.inr t1)]; exact hx2 i t i1 i2 t1 t2) j j1 j2
  intro i j i1 ij j2
  by_cases cj : j < mid
  · rw [p3.2.1 i (Or.inl (by omega)), p3.2.1 j (Or.inl cj)]; exact s2 i j i1 ij cj
  · by_cases ci : i < mid
    · rw [p3.2.1 i (Or.inl ci)]; exact hx3 i j i1 ci (by omega) j2
    · exact s3 i j (by omega) ij j2

end Go.Proofs.YtjafbfepdmgjnaaGreatDoor

namespace Go.Proofs.YtjafbfepdmgjnaaGreatDoor
open Go.RowKit Go.Sort
set_option linter.unusedVariables false

end Go.Proofs.YtjafbfepdmgjnaaGreatDoor

namespace Go.Proofs.YtjafbfepdmgjnaaGreatDoor
open Go.RowKit Go.Sort
set_option linter.unusedVariables false

theorem RotOf.up {a k : Nat} {d dk : Array Int} (h : RotOf a (a + 1) (k + 1) d dk) (hk : a ≤ k) (hs : k + 1 < d.size) : RotOf a (a + 1) (k + 2) d (swp dk k (k + 1)) := by
  refine ⟨by rw [size_swp]; exact h.1, fun t => ?_⟩
  have hs1 := h.1
  by_cases e1 : t = k + 1
  · subst e1
    rw [swp_right _ _ _ (by omega), h.2]; congr 1; unfold rotIx; repeat' split
    all_goals omega
  · by_cases e2 : t = k
    · subst e2
      rw [swp_left _ _ _ (by omega) (by omega), h.2]; congr 1; unfold rotIx; repeat' split
      all_goals omega
    · rw [swp_other _ _ _ _ e2 e1, h.2]; congr 1; unfold rotIx; repeat' split
      all_goals omega
theorem RotOf.down {k m : Nat} {d dk : Array Int} (h : RotOf k m (m + 1) d dk) (hk : k ≤ m) (hk0 : 0 < k) (hs : m < d.size) : RotOf (k - 1) m (m + 1) d (swp dk k (k - 1)) := by
  refine ⟨by rw [size_swp]; exact h.1, fun t => ?_⟩
  have hs1 := h.1
  by_cases e1 : t = k - 1
  · subst e1
    rw [swp_right _ _ _ (by omega), h.2]; congr 1; unfold rotIx; repeat' split
    all_goals omega
  · by_cases e2 : t = k
    · subst e2
      rw [swp_left _ _ _ (by omega) (by omega), h.2]; congr 1; unfold rotIx; repeat' split
      all_goals omega
    · rw [swp_other _ _ _ _ e2 e1, h.2]; congr 1; unfold rotIx; repeat' split
      all_goals omega

theorem permV {V : Int → Prop} {a b N : Nat} {d d' : Array Int} (h : PermIn a b d d') (hN : d.size = N) (hb : b ≤ N) (hV : ∀ t, t < N → V d[t]!) : ∀ t, t < N → V d'[t]! := by
  intro t ht
  by_cases c : a ≤ t ∧ t < b
  · exact permIn_all d d' a b V (by omega) h (fun i _ h2 => hV i (by omega)) t c.1 c.2
  · rw [h.2.1 t (by omega)]; exact hV t ht

theorem rowW_again (w : World) (blk off n m : Nat) (d d' : Array Int) (h : d'.size = d.size) : rowW (rowW w blk off n d) blk off m d' = rowW w blk off (n + m) d' :=
  putRow_ahead_putRow _ _ _ _ _ _ _ _ h
theorem rowW_holds {w : World} {blk off n : Nat} {d0 d : Array Int} (h : Holds (Value.int .i64) w blk off d0) (hs : d.size = d0.size) : Holds (Value.int .i64) (rowW w blk off n d) blk off d :=
  holds_putRow _ _ _ _ d0 d (holds_ahead _ _ _ _ _ _ h) hs

/-- Where the search for the first part's one number stands. -/
def FoundA (κ : Int → Int) (d : Array Int) (a m b i j : Nat) : Prop := (i = m ∨ κ d[a]! < κ d[i - 1]!) ∧ (j = b ∨ ¬ κ d[a]! < κ d[j]!)
/-- Where the search for the second part's one number stands. -/
def FoundB (κ : Int → Int) (d : Array Int) (a m i j : Nat) : Prop := (i = a ∨ ¬ κ d[i - 1]! < κ d[m]!) ∧ (j = m ∨ κ d[j]! < κ d[m]!)

def SymPost (κ : Int → Int) (w : World) (blk off a b : Nat) (d : Array Int) (e : Ending) (w' : World) : Prop :=
  e = .returned (.tuple #[]) ∧ ∃ q d', w' = rowW w blk off q d' ∧ PermIn a b d d' ∧ SrtM κ a b d'

end Go.Proofs.YtjafbfepdmgjnaaGreatDoor

namespace Go.Proofs.YtjafbfepdmgjnaaGreatDoor
open Go.RowKit Go.Sort
set_option linter.unusedVariables false

end Go.Proofs.YtjafbfepdmgjnaaGreatDoor

namespace Go.Proofs.YtjafbfepdmgjnaaGreatDoor
open Go.RowKit Go.Sort
set_option linter.unusedVariables false

theorem num_eqI {k : IntKind} {a b : Int} (h : a = b) : Value.int k a = Value.int k b := by rw [h]

/-- Where the search on both sides stands. -/
def FoundC (κ : Int → Int) (d : Array Int) (p s0 r0 s r : Nat) : Prop := (s = s0 ∨ (s0 < s ∧ ¬ κ d[s - 1]! < κ d[p - (s - 1)]!)) ∧ (r = r0 ∨ κ d[r]! < κ d[p - r]!)

end Go.Proofs.YtjafbfepdmgjnaaGreatDoor

namespace Go.Proofs.YtjafbfepdmgjnaaGreatDoor
open Go.Sort
set_option linter.unusedVariables false

structure InsI (κ : Int → Int) (a j i : Nat) (d : Array Int) : Prop where
  rest : ∀ p q, a ≤ p → p < q → q ≤ i → p ≠ j → q ≠ j → pr κ d[p]! d[q]!
  right : ∀ q, j < q → q ≤ i → pr κ d[j]! d[q]!
  small : ∀ p, a ≤ p → p ≤ i → p ≠ j → d[p]! < d[j]!

theorem InsI.stop {κ : Int → Int} {a j i : Nat} {d : Array Int} (h : InsI κ a j i d) (hji : j ≤ i) (haj : a ≤ j) (hs : j ≤ a ∨ ¬ κ d[j - 1]! < κ d[j]!) : SrtM κ a (i + 1) d := by
  have left : ∀ p, a ≤ p → p < j → pr κ d[p]! d[j]! := fun p h1 h2 => by
    rcases hs with hs | hs
    · omega
    · have hl : pr κ d[j - 1]! d[j]! := pr_of_not hs (h.small (j - 1) (by omega) (by omega) (by omega))
      by_cases e : p = j - 1
      · rw [e]; exact hl
      · exact pr_trans (h.rest p (j - 1) h1 (by omega) (by omega) (by omega) (by omega)) hl
  intro p q h1 h2 h3
  by_cases e1 : q = j
  · rw [e1]; exact left p h1 (by omega)
  · by_cases e2 : p = j
    · rw [e2]; exact h.right q (by omega) (by omega)
    · exact h.rest p q h1 h2 (by omega) e2 e1

theorem InsI.step {κ : Int → Int} {a j i : Nat} {d : Array Int} (h : InsI κ a j i d) (hji : j ≤ i) (haj : a < j) (hi : i < d.size) (hs : κ d[j - 1]! < κ d[j]!) : InsI κ a (j - 1) i (swp d j (j - 1)) := by
  have g1 : (swp d j (j - 1))[j]! = d[j - 1]! := swp_left d j (j - 1) (by omega) (by omega)
  have g2 : (swp d j (j - 1))[j - 1]! = d[j]! := swp_right d j (j - 1) (by omega)
  have g3 : ∀ k, k ≠ j → k ≠ j - 1 → (swp d j (j - 1))[k]! = d[k]! := fun k h1 h2 => swp_other d j (j - 1) k h1 h2
  refine ⟨?_, ?_, ?_⟩
  · intro p q h1 h2 h3 h4 h5
    by_cases e1 : p = j
    · rw [e1, g1, g3 q (by omega) h5]; exact h.rest (j - 1) q (by omega) (by omega) h3 (by omega) (by omega)
    · by_cases e2 : q = j
      · rw [e2, g1, g3 p e1 h4]; exact h.rest p (j - 1) h1 (by omega) (by omega) e1 (by omega)
      · rw [g3 p e1 h4, g3 q e2 h5]; exact h.rest p q h1 h2 h3 e1 e2
  · intro q h1 h2
    rw [g2]
    by_cases e : q = j
    · rw [e, g1]; exact pr_of_lt hs
    · rw [g3 q e (by omega)]; exact h.right q (by omega) h2
  · intro p h1 h2 h3
    rw [g2]
    by_cases e : p = j
    · rw [e, g1]; exact h.small (j - 1) (by omega) (by omega) (by omega)
    · rw [g3 p e h3]; exact h.small p h1 h2 e

theorem insInner_srt (κ : Int → Int) (lt : Int → Int → Bool) (hlt : ∀ x y, lt x y = true ↔ κ y < κ x) (a i : Nat) :
    ∀ (j : Nat) (d : Array Int), a ≤ j → j ≤ i → i < d.size → InsI κ a j i d → SrtM κ a (i + 1) (insInner lt a j d) ∧ ∀ t, i < t → (insInner lt a j d)[t]! = d[t]!
  | 0, d, h1, h2, h3, hI => by unfold insInner; exact ⟨hI.stop h2 h1 (Or.inl (by omega)), fun _ _ => rfl⟩
  | j + 1, d, h1, h2, h3, hI => by
    unfold insInner
    split
    · rename_i hc
      simp only [Bool.and_eq_true, decide_eq_true_eq] at hc
      have st := hI.step h2 (by omega) h3 (by simpa using (hlt _ _).1 hc.2)
      simp only [Nat.add_sub_cancel] at st
      obtain ⟨r1, r2⟩ := insInner_srt κ lt hlt a i j (swp d (j + 1) j) (by omega) (by omega) (by rw [size_swp]; exact h3) st
      exact ⟨r1, fun t ht => by rw [r2 t ht]; exact swp_other _ _ _ _ (by omega) (by omega)⟩
    · rename_i hc
      simp only [Bool.and_eq_true, decide_eq_true_eq, not_and] at hc
      refine ⟨hI.stop h2 h1 ?_, fun _ _ => rfl⟩
      by_cases h : j + 1 > a
      · exact Or.inr (fun g => hc h ((hlt _ _).2 (by simpa using g)))
      · exact Or.inl (by omega)

theorem insOuter_srt (κ : Int → Int) (lt : Int → Int → Bool) (hlt : ∀ x y, lt x y = true ↔ κ y < κ x) (hS : SWO lt) (a b : Nat) :
    ∀ (n i : Nat) (d : Array Int), b - i = n → a < i → i ≤ b → b ≤ d.size → SrtM κ a i d → (∀ t, a ≤ t → t < i → d[t]! < (i : Int)) → (∀ t, i ≤ t → t < b → d[t]! = (t : Int)) → SrtM κ a b (insOuter lt a b i d)
  | 0, i, d, hn, h1, h2, h3, hs, _, _ => by
    obtain rfl : i = b := by omega
    rw [insOuter, if_neg (by omega)]; exact hs
  | n + 1, i, d, hn, h1, h2, h3, hs, hlo, hhi => by
    have hlt' : i < b := by omega
    rw [insOuter, if_pos hlt']
    have hI : InsI κ a i i d := ⟨fun p q h1 h2 h3 _ h5 => hs p q h1 h2 (by omega), fun q h1 h2 => by omega, fun p h1 h2 h3 => by rw [hhi i (Nat.le_refl _) hlt']; exact hlo p h1 (by omega)⟩
    obtain ⟨r1, r2⟩ := insInner_srt κ lt hlt a i i d (by omega) (Nat.le_refl _) (by omega) hI
    have hp : PermIn a (i + 1) d (insInner lt a i d) :=
      (insInner_spec hS swp_permIn permIn_refl permIn_trans a (i + 1) i (by omega) i d (by omega) (Nat.le_refl _) (by omega) ⟨fun p q hap hpq hqi _ hq => by
        have := hs p q hap hpq (by omega)
        have h' : ¬ lt d[q]! d[p]! = true := fun g => by
          have := (hlt _ _).1 g
          unfold pr at *; omega
        simpa using h', fun q h1 h2 => by omega⟩).1
    refine insOuter_srt κ lt hlt hS a b n (i + 1) _ (by omega) (by omega) (by omega) (by rw [hp.1]; exact h3) r1 ?_ ?_
    · exact permIn_all d _ a (i + 1) (fun x => x < ((i + 1 : Nat) : Int)) (by omega) hp (fun t t1 t2 => by
        by_cases e : t = i
        · rw [e, hhi i (Nat.le_refl _) hlt']; omega
        · have := hlo t t1 (by omega); omega)
    · intro t t1 t2
      rw [r2 t (by omega)]; exact hhi t (by omega) t2

theorem swo_key (κ : Int → Int) (lt : Int → Int → Bool) (hlt : ∀ x y, lt x y = true ↔ κ y < κ x) : SWO lt := by
  have hf : ∀ x y, lt x y = false ↔ ¬ κ y < κ x := fun x y => by
    rw [← hlt x y]; simp
  exact ⟨fun x => by rw [hf]; omega, fun x y z h1 h2 => by rw [hlt] at *; omega, fun x y z h1 h2 => by rw [hf] at *; omega⟩

/-- A part that is sorted, and holds just its own places. -/
def Seg (κ : Int → Int) (a b : Nat) (d : Array Int) : Prop := SrtM κ a b d ∧ ∀ t, a ≤ t → t < b → (a : Int) ≤ d[t]! ∧ d[t]! < (b : Int)

theorem ins_seg (κ : Int → Int) (lt : Int → Int → Bool) (hlt : ∀ x y, lt x y = true ↔ κ y < κ x) (a b : Nat) (d : Array Int) (hab : a ≤ b) (hb : b ≤ d.size) (hid : ∀ t, a ≤ t → t < b → d[t]! = (t : Int)) :
    PermIn a b d (insertionSort lt d a b) ∧ Seg κ a b (insertionSort lt d a b) := by
  have hS := swo_key κ lt hlt
  have hp := (insertionSort_holds (lt := lt) hS d a b hab hb).1
  refine ⟨hp, ?_, permIn_all d _ a b (fun x => (a : Int) ≤ x ∧ x < (b : Int)) hb hp (fun t t1 t2 => by rw [hid t t1 t2]; omega)⟩
  by_cases e : a = b
  · subst e; intro i j h1 h2 h3; omega
  · unfold insertionSort
    exact insOuter_srt κ lt hlt hS a b _ (a + 1) d rfl (by omega) (by omega) hb (fun i j h1 h2 h3 => by omega) (fun t t1 t2 => by rw [hid t t1 (by omega)]; omega) (fun t t1 t2 => hid t (by omega) t2)

theorem Seg.apt {κ : Int → Int} {a m b : Nat} {d : Array Int} (h : Seg κ a m d) (g : Seg κ m b d) : Apt a m b d := fun i j h1 h2 h3 h4 => by
  have := (h.2 i h1 h2).2; have := (g.2 j h3 h4).1; omega
theorem Seg.of_eq {κ : Int → Int} {a b : Nat} {d d' : Array Int} (h : Seg κ a b d) (he : ∀ t, a ≤ t → t < b → d'[t]! = d[t]!) : Seg κ a b d' :=
  ⟨h.1.of_eq he, fun t t1 t2 => by rw [he t t1 t2]; exact h.2 t t1 t2⟩
theorem Seg.merged {κ : Int → Int} {a m b : Nat} {d d' : Array Int} (h : Seg κ a m d) (g : Seg κ m b d) (hm : a ≤ m) (hmb : m ≤ b) (hb : b ≤ d.size) (hp : PermIn a b d d') (hs : SrtM κ a b d') : Seg κ a b d' :=
  ⟨hs, permIn_all d d' a b (fun x => (a : Int) ≤ x ∧ x < (b : Int)) hb hp (fun t t1 t2 => by
    by_cases c : t < m
    · have := h.2 t t1 c; omega
    · have := g.2 t (by omega) t2; omega)⟩

end Go.Proofs.YtjafbfepdmgjnaaGreatDoor

namespace Go.Proofs.YtjafbfepdmgjnaaGreatDoor
open Go.RowKit Go.Sort
set_option linter.unusedVariables false

/-- What a step of the sort leaves: a part is sorted, the rest as it was. -/
def StepPost (κ : Int → Int) (V : Int → Prop) (w : World) (blk off N a b : Nat) (d : Array Int) (e : Ending) (w' : World) : Prop :=
  e = .returned (.tuple #[]) ∧ ∃ q d', w' = rowW w blk off q d' ∧ d'.size = N ∧ (∀ t, t < N → V d'[t]!) ∧ Seg κ a b d' ∧ ∀ t, t < a ∨ b ≤ t → d'[t]! = d[t]!

end Go.Proofs.YtjafbfepdmgjnaaGreatDoor

namespace Go.Proofs.YtjafbfepdmgjnaaGreatDoor
open Go.RowKit Go.Sort
set_option linter.unusedVariables false

/-- A row on its way: how long it is, what its numbers are. -/
def Way (V : Int → Prop) (N : Nat) (d : Array Int) : Prop := d.size = N ∧ ∀ t, t < N → V d[t]!
/-- All from here on stand at their own places. -/
def Idt (N c : Nat) (d : Array Int) : Prop := ∀ t, c ≤ t → t < N → d[t]! = (t : Int)
def Same (a b : Nat) (d d' : Array Int) : Prop := ∀ t, t < a ∨ b ≤ t → d'[t]! = d[t]!
theorem Idt.keep {N a b c : Nat} {d d' : Array Int} (h : Idt N c d) (hs : Same a b d d') (hb : b ≤ c) : Idt N c d' := fun t h1 h2 => by rw [hs t (Or.inr (by omega))]; exact h t h1 h2
theorem Idt.on {N c c' : Nat} {d : Array Int} (h : Idt N c d) (hc : c ≤ c') : Idt N c' d := fun t h1 h2 => h t (by omega) h2
theorem Seg.keep {κ : Int → Int} {a b p q : Nat} {d d' : Array Int} (h : Seg κ p q d) (hs : Same a b d d') (hb : q ≤ a ∨ b ≤ p) : Seg κ p q d' := h.of_eq (fun t h1 h2 => hs t (by omega))

/-- What a step leaves, by names. -/
def StepP (κ : Int → Int) (V : Int → Prop) (w : World) (blk off N a b : Nat) (d : Array Int) (e : Ending) (w' : World) : Prop :=
  e = .returned (.tuple #[]) ∧ ∃ q d', w' = rowW w blk off q d' ∧ Way V N d' ∧ Seg κ a b d' ∧ Same a b d d'
theorem stepP {κ : Int → Int} {V : Int → Prop} {w : World} {blk off N a b : Nat} {d : Array Int} {e : Ending} {w' : World} (h : StepPost κ V w blk off N a b d e w') : StepP κ V w blk off N a b d e w' := by
  obtain ⟨rfl, q, d', rfl, h1, h2, h3, h4⟩ := h
  exact ⟨rfl, q, d', rfl, ⟨h1, h2⟩, h3, h4⟩

end Go.Proofs.YtjafbfepdmgjnaaGreatDoor

namespace Go.Proofs.YtjafbfepdmgjnaaGreatDoor
open Go.RowKit Go.Sort
set_option linter.unusedVariables false

def cmpU (x y : Int) : Int := if x < y then -1 else if y < x then 1 else 0
theorem cmpU_neg (x y : Int) : cmpU x y < 0 ↔ x < y := by unfold cmpU; split <;> (try split) <;> omega

end Go.Proofs.YtjafbfepdmgjnaaGreatDoor

namespace Go.Proofs.YtjafbfepdmgjnaaGreatDoor
open Go.RowKit Go.Sort
set_option linter.unusedVariables false

theorem rowW_set (w : World) (blk off n : Nat) (d : Array Int) (i : Nat) (x : Int) (hi : i < d.size) :
    (rowW w blk off n d).setCell ⟨blk, off + i, none⟩ (.int .i64 x) = rowW w blk off n (d.setIfInBounds i x) := putRow_set (Value.int .i64) _ blk off d i x hi
theorem rowW_other (w : World) (blk off n : Nat) (d : Array Int) (a : Addr) (h : a.block ≠ blk) : (rowW w blk off n d).cell? a = w.cell? a := by
  unfold rowW; rw [cell?_putRow_other _ _ _ _ _ _ (Or.inl h)]; rfl
theorem rowW_frozenA (w : World) (blk off n : Nat) (d : Array Int) (a : Addr) : (rowW w blk off n d).frozen? a = w.frozen? a := by
  unfold rowW; rw [frozen?_putRow]; rfl
theorem rowW_size (w : World) (blk off n : Nat) (d : Array Int) : (rowW w blk off n d).heap.size = w.heap.size := by
  unfold rowW; rw [size_putRow]; rfl
theorem rowW_below (w : World) (blk off n B : Nat) (d : Array Int) (h : B ≤ blk) : Below B w (rowW w blk off n d) := by
  refine ⟨rfl, rfl, rfl, by rw [rowW_size]; exact Nat.le_refl _, fun k hk => ?_⟩
  show (w.heap.modify blk _)[k]? = _
  rw [Array.getElem?_modify, if_neg (by omega)]

/-- The row of places, filled so far. -/
def fillI (n : Nat) : Nat → Array Int
  | 0 => (List.replicate n (0 : Int)).toArray
  | k + 1 => (fillI n k).setIfInBounds k (k : Int)
theorem fillI_size (n : Nat) : ∀ k, (fillI n k).size = n
  | 0 => by simp [fillI]
  | k + 1 => by simp [fillI, fillI_size n k]
theorem fillI_at (n : Nat) : ∀ k t, t < k → t < n → (fillI n k)[t]! = (t : Int)
  | 0, t, h, _ => by omega
  | k + 1, t, h, hn => by
    have hs := fillI_size n k
    rw [fillI]
    by_cases e : t = k
    · subst e; exact getElem!_set_same _ _ _ (by omega)
    · rw [getElem!_set_other _ _ _ _ e]; exact fillI_at n k t (by omega) hn

theorem made_holds (w : World) (n : Nat) (e : TypeId) : Holds (Value.int .i64) (w.alloc (.cells (madeCells #[.int .i64 0] n) e)) w.heap.size 0 (fillI n 0) := by
  intro j hj
  rw [fillI_size] at hj
  refine ⟨?_, ?_⟩
  · rw [World.cell?_alloc_at _ _ _ _ rfl]
    simp [madeCells, fillI, hj, Nat.mod_one]
  · exact World.frozen?_alloc_at _ _ _ _ rfl

/-- Parts, with one more for each of the first places of an order. -/
def addK (P : Nat → Int) (d : Array Int) : Nat → Nat → Int
  | 0 => P
  | k + 1 => fun t => addK P d k t + if (t : Int) = d[k]! then 1 else 0

theorem addK_new (P : Nat → Int) (d : Array Int) (t : Nat) : ∀ k, (∀ j, j < k → d[j]! ≠ (t : Int)) → addK P d k t = P t
  | 0, _ => rfl
  | k + 1, h => by
    show addK P d k t + (if (t : Int) = d[k]! then 1 else 0) = P t
    rw [addK_new P d t k (fun j hj => h j (by omega)), if_neg (fun e => h k (by omega) e.symm)]; omega

theorem SrtM.ne {κ : Int → Int} {a b : Nat} {d : Array Int} (h : SrtM κ a b d) {i j : Nat} (h1 : a ≤ i) (h2 : i < j) (h3 : j < b) : d[i]! ≠ d[j]! := fun e => by
  have := h i j h1 h2 h3; rw [e] at this; unfold pr at this; omega

/-- Where the giving stands. -/
structure GiveInv (P : Nat → Int) (d : Array Int) (w : World) (n pb ob k : Nat) (wx : World) : Prop where
  below : Below pb w wx
  ord : ∀ t, t < n → wx.cell? ⟨ob, 0 + t, none⟩ = some (.int .i64 d[t]!)
  par : ∀ t, t < n → wx.cell? ⟨pb, 0 + t, none⟩ = some (.int .i64 (addK P d k t))
  frz : ∀ t, t < n → wx.frozen? ⟨pb, 0 + t, none⟩ = false

theorem GiveInv.step {P : Nat → Int} {d : Array Int} {w wx : World} {n pb k j : Nat} (h : GiveInv P d w n pb (w.heap.size + 1) k wx) (hj : d[k]! = (j : Int)) (hjn : j < n) (hpb : pb < w.heap.size) (hnew : addK P d k j = P j) :
    GiveInv P d w n pb (w.heap.size + 1) (k + 1) (wx.setCell ⟨pb, j, none⟩ (.int .i64 (P j + 1))) := by
  refine ⟨h.below.setCell (Nat.le_refl _) _, fun t ht => ?_, fun t ht => ?_, fun t ht => ?_⟩
  · rw [cell_other (by intro e; have := congrArg Addr.block e; simp at this; omega)]; exact h.ord t ht
  · show _ = some (Value.int .i64 (addK P d k t + if (t : Int) = d[k]! then 1 else 0))
    by_cases e : t = j
    · subst e
      rw [Nat.zero_add, cell_same (u := .int .i64 (P t)) (by have := h.par t ht; rw [Nat.zero_add, hnew] at this; exact this), hj, if_pos rfl, hnew]
    · rw [cell_other (by intro e'; have := congrArg Addr.off e'; simp at this; omega), h.par t ht, hj, if_neg (by omega), Int.add_zero]
  · rw [World.frozen?_setCell]; exact h.frz t ht

end Go.Proofs.YtjafbfepdmgjnaaGreatDoor

namespace Go.Proofs.YtjafbfepdmgjnaaGreatDoor
open Go.RowKit Go.Sort
set_option linter.unusedVariables false

/-- Where the cutting stands: the parts lie at pb, what was cut off at pb + 1. -/
structure ShareInv (q r : Nat → Int) (w : World) (n k : Nat) (wx : World) : Prop where
  below : Below w.heap.size w wx
  size : wx.heap.size = w.heap.size + 2
  par : ∀ t, t < n → wx.cell? ⟨w.heap.size, 0 + t, none⟩ = some (.int .i64 (if t < k then q t else 0))
  parf : ∀ t, t < n → wx.frozen? ⟨w.heap.size, 0 + t, none⟩ = false
  cut : ∀ t, t < n → wx.cell? ⟨w.heap.size + 1, 0 + t, none⟩ = some (.int .u64 (if t < k then r t else 0))
  cutf : ∀ t, t < n → wx.frozen? ⟨w.heap.size + 1, 0 + t, none⟩ = false

theorem ShareInv.step {q r : Nat → Int} {w wx : World} {n k : Nat} (h : ShareInv q r w n k wx) (hk : k < n) :
    ShareInv q r w n (k + 1) ((wx.setCell ⟨w.heap.size, k, none⟩ (.int .i64 (q k))).setCell ⟨w.heap.size + 1, k, none⟩ (.int .u64 (r k))) := by
  refine ⟨(h.below.setCell (Nat.le_refl _) _).setCell (Nat.le_succ _) _, by simp [h.size], fun t ht => ?_, fun t ht => ?_, fun t ht => ?_, fun t ht => ?_⟩
  · rw [cell_other (addr_ne_block (by omega)), Nat.zero_add]
    by_cases e : t = k
    · subst e
      have := h.par t ht
      rw [Nat.zero_add] at this
      rw [cell_same this, if_pos (by omega)]
    · have := h.par t ht
      rw [Nat.zero_add] at this
      rw [cell_other (addr_ne_off (by omega)), this]
      by_cases c : t < k
      · rw [if_pos c, if_pos (by omega)]
      · rw [if_neg c, if_neg (by omega)]
  · rw [World.frozen?_setCell, World.frozen?_setCell]; exact h.parf t ht
  · rw [Nat.zero_add]
    have := h.cut t ht
    rw [Nat.zero_add] at this
    by_cases e : t = k
    · subst e
      rw [cell_same (u := .int .u64 (if t < t then r t else 0)) (by rw [cell_other (addr_ne_block (by omega))]; exact this), if_pos (by omega)]
    · rw [cell_other (addr_ne_off (by omega)), cell_other (addr_ne_block (by omega)), this]
      by_cases c : t < k
      · rw [if_pos c, if_pos (by omega)]
      · rw [if_neg c, if_neg (by omega)]
  · rw [World.frozen?_setCell, World.frozen?_setCell]; exact h.cutf t ht

theorem ShareInv.drewN {q r : Nat → Int} {w wx : World} {n k : Nat} (h : ShareInv q r w n k wx) (m : Nat) : ShareInv q r w n k (wx.drewN m) :=
  ⟨⟨h.below.os, h.below.tape, h.below.output, h.below.size, h.below.block⟩, h.size, h.par, h.parf, h.cut, h.cutf⟩

theorem ShareInv.start (q r : Nat → Int) (w : World) (n : Nat) (e e' : TypeId) :
    ShareInv q r w n 0 ((w.alloc (.cells (madeCells #[.int .i64 0] n) e)).alloc (.cells (madeCells #[.int .u64 0] n) e')) := by
  have hs : (w.alloc (.cells (madeCells #[.int .i64 0] n) e)).heap.size = w.heap.size + 1 := by simp
  refine ⟨Below.alloc (Below.alloc (Below.refl _ w) (Nat.le_refl _) _) (by simp) _, by simp, fun t ht => ?_, fun t ht => ?_, fun t ht => ?_, fun t ht => ?_⟩
  · rw [World.cell?_alloc_past _ _ _ (by rw [hs]; omega), made_at _ _ _ _ _ ht, if_neg (by omega)]
  · rw [World.frozen?_alloc_past _ _ _ (by rw [hs]; omega)]; exact World.frozen?_alloc_at _ _ _ _ rfl
  · have := made_at (w.alloc (.cells (madeCells #[.int .i64 0] n) e)) n (.int .u64 0) e' t ht
    rw [hs] at this
    rw [this, if_neg (by omega)]
  · exact World.frozen?_alloc_at _ _ _ _ hs.symm

theorem Tryz.infoU : (Tryz.prog.info? 169).map (fun i => (i.zero, i.size, i.bytes)) = some (some (.int .u64 0), 1, 8) := by kernel_rfl

theorem divQ_mul (x y s : Int) : divQ (mulHi x y) (mulLo x y) s = x * y / s := by unfold divQ mulHi mulLo; rw [hl_back]
theorem divR_mul (x y s : Int) : divR (mulHi x y) (mulLo x y) s = x * y % s := by unfold divR mulHi mulLo; rw [hl_back]
theorem mulHi_lt (x y s : Int) (hx0 : 0 ≤ x) (hx : x ≤ 9223372036854775807) (hy : 0 ≤ y) (hys : y ≤ s) (hs : 0 < s) : 0 ≤ mulHi x y ∧ mulHi x y < s := by
  have h0 : 0 ≤ x * y := Int.mul_nonneg hx0 hy
  have h1 : x * y ≤ 9223372036854775807 * s := Int.mul_le_mul hx hys hy (by omega)
  unfold mulHi; omega

/-- What the parts are, behind the giving. -/
def SharePost (T : Int) (l : List Int) (w : World) (e : Ending) (w' : World) : Prop :=
  e = .returned (.slice (some ⟨w.heap.size, 0, none⟩) l.length l.length) ∧ ∃ d : Array Int, d.size = l.length ∧ Seg (fun x => rF T (sumL l) l x.toNat) 0 l.length d ∧ Below w.heap.size w w' ∧ w.heap.size < w'.heap.size ∧
    (∀ t, t < l.length → w'.cell? ⟨w.heap.size, 0 + t, none⟩ = some (.int .i64 (addK (qF T (sumL l) l) d (T - sumF (qF T (sumL l) l) l.length).toNat t))) ∧ ∀ t, t < l.length → w'.frozen? ⟨w.heap.size, 0 + t, none⟩ = false

/-- What Split answers: the parts of a total that is not below nought. -/
def partF (T : Int) (l : List Int) (d : Array Int) (t : Nat) : Int := addK (qF T (sumL l) l) d (T - sumF (qF T (sumL l) l) l.length).toNat t
/-- The order in which what is left is given away. -/
def Ordered (T : Int) (l : List Int) (d : Array Int) : Prop := d.size = l.length ∧ Seg (fun x => rF T (sumL l) l x.toNat) 0 l.length d

/-- Parts that lie in new memory. -/
def SplitPost (T : Int) (l : List Int) (w : World) (e : Ending) (w' : World) : Prop :=
  e = .returned (.tuple #[.slice (some ⟨w.heap.size, 0, none⟩) l.length l.length, .int .i64 0]) ∧ ∃ d : Array Int, Ordered (absI T) l d ∧ Below w.heap.size w w' ∧ w.heap.size < w'.heap.size ∧
    ∀ t, t < l.length → w'.cell? ⟨w.heap.size, 0 + t, none⟩ = some (.int .i64 (sgn (decide (T < 0)) (partF (absI T) l d t)))

theorem addK_bd (P : Nat → Int) (d : Array Int) (t : Nat) : ∀ k, P t ≤ addK P d k t ∧ addK P d k t ≤ P t + k
  | 0 => by simp [addK]
  | k + 1 => by
    have := addK_bd P d t k
    show P t ≤ addK P d k t + (if (t : Int) = d[k]! then 1 else 0) ∧ addK P d k t + (if (t : Int) = d[k]! then 1 else 0) ≤ P t + ((k + 1 : Nat) : Int)
    split <;> omega

theorem partF_bd {T : Int} {l : List Int} {d : Array Int} (hT : 0 ≤ T) (hS : 0 < sumL l) (h : NonNeg l) {t : Nat} (ht : t < l.length) : 0 ≤ partF T l d t ∧ partF T l d t ≤ T := by
  have h1 := qF_nonneg (S := sumL l) hT hS h t
  have h2 := sumq_mono (S := sumL l) (k := l.length) (j := t + 1) hT hS h ht
  have h3 := sumq_mono (S := sumL l) (k := t) (j := 0) hT hS h (Nat.zero_le _)
  have h4 := addK_bd (qF T (sumL l) l) d t (T - sumF (qF T (sumL l) l) l.length).toNat
  have h5 := (sumq_le (T := T) hT hS h (Nat.le_refl l.length)).2
  simp only [sumF] at h2 h3
  unfold partF
  omega


end Go.Proofs.YtjafbfepdmgjnaaGreatDoor

namespace Go.Proofs.YtjafbfepdmgjnaaGreatDoor
open Go.RowKit Go.Sort
set_option linter.unusedVariables false

/-- Where the turning of signs stands. -/
structure TurnInv (p : Nat → Int) (w w1 : World) (n k : Nat) (wx : World) : Prop where
  below : Below w.heap.size w wx
  size : w.heap.size < wx.heap.size
  par : ∀ t, t < n → wx.cell? ⟨w.heap.size, 0 + t, none⟩ = some (.int .i64 (if t < k then -(p t) else p t))
  frz : ∀ t, t < n → wx.frozen? ⟨w.heap.size, 0 + t, none⟩ = false

theorem TurnInv.step {p : Nat → Int} {w w1 wx : World} {n k : Nat} (h : TurnInv p w w1 n k wx) (hk : k < n) : TurnInv p w w1 n (k + 1) (wx.setCell ⟨w.heap.size, k, none⟩ (.int .i64 (-(p k)))) := by
  refine ⟨h.below.setCell (Nat.le_refl _) _, by simpa using h.size, fun t ht => ?_, fun t ht => ?_⟩
  · rw [Nat.zero_add]
    have := h.par t ht
    rw [Nat.zero_add] at this
    by_cases e : t = k
    · subst e; rw [cell_same this, if_pos (by omega)]
    · rw [cell_other (addr_ne_off (by omega)), this]
      by_cases c : t < k
      · rw [if_pos c, if_pos (by omega)]
      · rw [if_neg c, if_neg (by omega)]
  · rw [World.frozen?_setCell]; exact h.frz t ht

end Go.Proofs.YtjafbfepdmgjnaaGreatDoor

namespace Go.Proofs.YtjafbfepdmgjnaaGreatDoor
open Go.RowKit Go.Sort
set_option linter.unusedVariables false

/-- Lists that are the same so far. -/
def sameK (l m : List Int) (k : Nat) : Prop := ∀ t, t < k → l.getD t 0 = m.getD t 0
theorem same_of {l m : List Int} (hn : l.length = m.length) (h : sameK l m l.length) : l = m := by
  apply List.ext_getElem hn
  intro i h1 h2
  have := h i h1
  rw [List.getD_eq_getElem?_getD, List.getD_eq_getElem?_getD, List.getElem?_eq_getElem h1, List.getElem?_eq_getElem h2] at this
  exact this

theorem md_5 : fitN (md 5 1 2) = 2 ∧ fitE (md 5 1 2) = 0 := by decide
theorem md_7 : fitN (md 7 1 2) = 4 ∧ fitE (md 7 1 2) = 0 := by decide

theorem thirds_key (t : Nat) (ht : t < 3) : rF 10 (sumL [1, 1, 1]) [1, 1, 1] t = 1 := by
  have : t = 0 ∨ t = 1 ∨ t = 2 := by omega
  rcases this with rfl | rfl | rfl <;> decide
theorem thirds (d : Array Int) (h : Ordered 10 [1, 1, 1] d) : partF 10 [1, 1, 1] d 0 = 4 ∧ partF 10 [1, 1, 1] d 1 = 3 ∧ partF 10 [1, 1, 1] d 2 = 3 := by
  have hb := fun t ht => h.2.2 t (Nat.zero_le _) ht
  have b0 := hb 0 (by decide)
  have b1 := hb 1 (by decide)
  have b2 := hb 2 (by decide)
  have p01 := h.2.1 0 1 (by decide) (by decide) (by decide)
  have p12 := h.2.1 1 2 (by decide) (by decide) (by decide)
  simp only [List.length_cons, List.length_nil] at b0 b1 b2
  have k0 := thirds_key d[0]!.toNat (by omega)
  have k1 := thirds_key d[1]!.toNat (by omega)
  have k2 := thirds_key d[2]!.toNat (by omega)
  simp only [pr, k0, k1, k2] at p01 p12
  have e0 : d[0]! = 0 := by omega
  have el : (10 - sumF (qF 10 (sumL [1, 1, 1]) [1, 1, 1]) [(1 : Int), 1, 1].length).toNat = 1 := by decide
  have q0 : qF 10 (sumL [1, 1, 1]) [1, 1, 1] 0 = 3 := by decide
  have q1 : qF 10 (sumL [1, 1, 1]) [1, 1, 1] 1 = 3 := by decide
  have q2 : qF 10 (sumL [1, 1, 1]) [1, 1, 1] 2 = 3 := by decide
  unfold partF
  rw [el]
  simp [addK, e0, q0, q1, q2]

theorem row_lit3 (w : World) (x y z : Int) (e : TypeId) : Row (w.alloc (.cells #[.int .i64 x, .int .i64 y, .int .i64 z] e)) w.heap.size 0 [x, y, z] := by
  intro t ht
  rw [World.cell?_alloc_at _ _ _ _ rfl]
  have : t = 0 ∨ t = 1 ∨ t = 2 := by simp at ht; omega
  rcases this with rfl | rfl | rfl <;> rfl

theorem row_alloc {w : World} {b o : Nat} {l : List Int} (h : Row w b o l) (hb : b < w.heap.size) (ob : Obj) : Row (w.alloc ob) b o l := fun t ht => by
  rw [World.cell?_alloc_past _ _ _ hb]; exact h t ht

end Go.Proofs.YtjafbfepdmgjnaaGreatDoor

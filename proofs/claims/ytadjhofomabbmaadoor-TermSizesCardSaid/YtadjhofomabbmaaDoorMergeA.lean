/-
  Plain numbers and rows: ranges that are exchanged, blocks that are turned round, and two sorted parts that are merged. No program.
-/
import Derived.Sort.LotA
namespace Go.Proofs.YtadjhofomabbmaaDoor
open Go.Sort
set_option linter.unusedVariables false

/-- Two ranges of a row, exchanged place by place. -/
def swpRange (d : Array Int) (a b : Nat) : Nat → Array Int
  | 0 => d
  | n + 1 => swp (swpRange d a b n) (a + n) (b + n)

theorem size_swpRange (d : Array Int) (a b : Nat) : ∀ n, (swpRange d a b n).size = d.size
  | 0 => rfl
  | n + 1 => by rw [swpRange, size_swp, size_swpRange d a b n]

theorem swpRange_at (d : Array Int) (a b : Nat) : ∀ n, a + n ≤ b → b + n ≤ d.size → ∀ t,
    (swpRange d a b n)[t]! = d[if a ≤ t ∧ t < a + n then t + (b - a) else if b ≤ t ∧ t < b + n then t - (b - a) else t]!
  | 0, _, _, t => by rw [swpRange, if_neg (by omega), if_neg (by omega)]
  | n + 1, h1, h2, t => by
    have ih := swpRange_at d a b n (by omega) (by omega)
    have hs := size_swpRange d a b n
    rw [swpRange]
    by_cases e1 : t = b + n
    · subst e1
      rw [swp_right _ _ _ (by omega), ih, if_neg (by omega), if_neg (by omega), if_neg (by omega), if_pos (by omega)]
      congr 1; omega
    · by_cases e2 : t = a + n
      · subst e2
        rw [swp_left _ _ _ (by omega) (by omega), ih, if_neg (by omega), if_neg (by omega), if_pos (by omega)]
        congr 1; omega
      · rw [swp_other _ _ _ _ e2 e1, ih]
        congr 1
        repeat' split
        all_goals omega

theorem swpRange_perm (d : Array Int) (a b lo hi : Nat) : ∀ n, lo ≤ a → a + n ≤ b → b + n ≤ hi → hi ≤ d.size → PermIn lo hi d (swpRange d a b n)
  | 0, _, _, _, _ => permIn_refl _ _ _
  | n + 1, h1, h2, h3, h4 => permIn_trans _ _ _ _ _ (swpRange_perm d a b lo hi n h1 (by omega) (by omega) h4)
      (swp_permIn _ _ _ _ _ (by omega) (by omega) (by omega) (by omega) (by rw [size_swpRange]; exact h4))

/-- Where a place's value was, ahead of the turn of two blocks. -/
def rotIx (a m b t : Nat) : Nat := if t < a ∨ b ≤ t then t else if t < a + (b - m) then m + (t - a) else t - (b - m)

/-- d' is d, the blocks [a, m) and [m, b) the other way round. -/
def RotOf (a m b : Nat) (d d' : Array Int) : Prop := d'.size = d.size ∧ ∀ t, d'[t]! = d[rotIx a m b t]!

theorem RotOf.even (d : Array Int) (m i : Nat) (hi : i ≤ m) (hb : m + i ≤ d.size) : RotOf (m - i) m (m + i) d (swpRange d (m - i) m i) := by
  refine ⟨size_swpRange _ _ _ _, fun t => ?_⟩
  rw [swpRange_at d (m - i) m i (by omega) hb t]
  congr 1
  unfold rotIx
  by_cases c1 : m - i ≤ t ∧ t < m - i + i
  · rw [if_pos c1, if_neg (by omega), if_pos (by omega)]; omega
  · rw [if_neg c1]
    by_cases c2 : m ≤ t ∧ t < m + i
    · rw [if_pos c2, if_neg (by omega), if_neg (by omega)]; omega
    · rw [if_neg c2, if_pos (by omega)]

theorem RotOf.left {d d' : Array Int} {m i j : Nat} (hji : j < i) (hj : 0 < j) (hi : i ≤ m) (hb : m + j ≤ d.size)
    (h : RotOf (m - (i - j)) m (m + j) (swpRange d (m - i) m j) d') : RotOf (m - i) m (m + j) d d' := by
  refine ⟨h.1.trans (size_swpRange _ _ _ _), fun t => ?_⟩
  rw [h.2 t, swpRange_at d (m - i) m j (by omega) hb]
  congr 1
  unfold rotIx
  repeat' split
  all_goals omega

theorem RotOf.right {d d' : Array Int} {m i j : Nat} (hij : i < j) (hi0 : 0 < i) (hi : i ≤ m) (hb : m + j ≤ d.size)
    (h : RotOf (m - i) m (m + (j - i)) (swpRange d (m - i) (m + j - i) i) d') : RotOf (m - i) m (m + j) d d' := by
  refine ⟨h.1.trans (size_swpRange _ _ _ _), fun t => ?_⟩
  rw [h.2 t, swpRange_at d (m - i) (m + j - i) i (by omega) (by omega)]
  congr 1
  unfold rotIx
  repeat' split
  all_goals omega

/-- The order: by a key, falling, then by the number itself. -/
def pr (κ : Int → Int) (x y : Int) : Prop := κ y < κ x ∨ (κ x = κ y ∧ x < y)
theorem pr_trans {κ : Int → Int} {x y z : Int} (h : pr κ x y) (g : pr κ y z) : pr κ x z := by unfold pr at *; omega
def Srt (κ : Int → Int) (a b : Nat) (d : Array Int) : Prop := ∀ i j, a ≤ i → i < j → j < b → pr κ d[i]! d[j]!
/-- Numbers of the first part are less than those of the second. -/
def Apt (a m b : Nat) (d : Array Int) : Prop := ∀ i j, a ≤ i → i < m → m ≤ j → j < b → d[i]! < d[j]!
theorem pr_of_lt {κ : Int → Int} {x y : Int} (h : κ y < κ x) : pr κ x y := Or.inl h
theorem pr_of_not {κ : Int → Int} {x y : Int} (h : ¬ κ y < κ x) (hx : y < x) : pr κ y x := by unfold pr; omega

theorem Srt.le {κ : Int → Int} {a b : Nat} {d : Array Int} (h : Srt κ a b d) {i j : Nat} (hi : a ≤ i) (hij : i ≤ j) (hj : j < b) {z : Int} (hz : pr κ d[j]! z) : pr κ d[i]! z := by
  by_cases e : i = j
  · subst e; exact hz
  · exact pr_trans (h i j hi (by omega) hj) hz
theorem Srt.ge {κ : Int → Int} {a b : Nat} {d : Array Int} (h : Srt κ a b d) {i j : Nat} (hi : a ≤ i) (hij : i ≤ j) (hj : j < b) {z : Int} (hz : pr κ z d[i]!) : pr κ z d[j]! := by
  by_cases e : i = j
  · subst e; exact hz
  · exact pr_trans hz (h i j hi (by omega) hj)

/-- One number, put into a sorted part behind it. -/
theorem merge_first {κ : Int → Int} {a b i : Nat} {d d' : Array Int} (hs : Srt κ (a + 1) b d) (hA : Apt a (a + 1) b d) (hi0 : a + 1 ≤ i) (hib : i ≤ b)
    (hl : i = a + 1 ∨ κ d[a]! < κ d[i - 1]!) (hr : i = b ∨ ¬ κ d[a]! < κ d[i]!) (h : RotOf a (a + 1) i d d') : Srt κ a b d' := by
  have hx : ∀ t, a ≤ t → t < i - 1 → d'[t]! = d[t + 1]! := fun t h1 h2 => by
    rw [h.2 t]; congr 1; unfold rotIx; rw [if_neg (by omega), if_pos (by omega)]; omega
  have hy : d'[i - 1]! = d[a]! := by
    rw [h.2]; congr 1; unfold rotIx; rw [if_neg (by omega), if_neg (by omega)]; omega
  have hz : ∀ t, i ≤ t → d'[t]! = d[t]! := fun t h1 => by
    rw [h.2 t]; congr 1; unfold rotIx; rw [if_pos (by omega)]
  have below : ∀ t, a + 1 ≤ t → t < i → pr κ d[t]! d[a]! := fun t h1 h2 => by
    rcases hl with hl | hl
    · omega
    · exact hs.le h1 (by omega) (by omega) (pr_of_lt hl) (j := i - 1)
  have above : ∀ t, i ≤ t → t < b → pr κ d[a]! d[t]! := fun t h1 h2 => by
    rcases hr with hr | hr
    · omega
    · exact hs.ge hi0 h1 h2 (pr_of_not hr (hA a i (by omega) (by omega) (by omega) (by omega)))
  intro p q hp hpq hq
  by_cases q1 : q < i - 1
  · rw [hx p hp (by omega), hx q (by omega) q1]; exact hs _ _ (by omega) (by omega) (by omega)
  · by_cases q2 : q = i - 1
    · subst q2; rw [hx p hp hpq, hy]; exact below _ (by omega) (by omega)
    · rw [hz q (by omega)]
      by_cases p1 : p < i - 1
      · rw [hx p hp p1]; exact pr_trans (below _ (by omega) (by omega)) (above q (by omega) hq)
      · by_cases p2 : p = i - 1
        · subst p2; rw [hy]; exact above q (by omega) hq
        · rw [hz p (by omega)]; exact hs _ _ (by omega) hpq hq

/-- One number, put into a sorted part ahead of it. -/
theorem merge_last {κ : Int → Int} {a m i : Nat} {d d' : Array Int} (hs : Srt κ a m d) (hA : Apt a m (m + 1) d) (hi0 : a ≤ i) (him : i ≤ m)
    (hl : i = a ∨ ¬ κ d[i - 1]! < κ d[m]!) (hr : i = m ∨ κ d[i]! < κ d[m]!) (h : RotOf i m (m + 1) d d') : Srt κ a (m + 1) d' := by
  have hx : ∀ t, t < i → d'[t]! = d[t]! := fun t h1 => by
    rw [h.2 t]; congr 1; unfold rotIx; rw [if_pos (by omega)]
  have hy : d'[i]! = d[m]! := by
    rw [h.2]; congr 1; unfold rotIx; rw [if_neg (by omega), if_pos (by omega)]; omega
  have hz : ∀ t, i < t → t < m + 1 → d'[t]! = d[t - 1]! := fun t h1 h2 => by
    rw [h.2 t]; congr 1; unfold rotIx; rw [if_neg (by omega), if_neg (by omega)]; omega
  have below : ∀ t, a ≤ t → t < i → pr κ d[t]! d[m]! := fun t h1 h2 => by
    rcases hl with hl | hl
    · omega
    · exact hs.le h1 (by omega) (by omega) (pr_of_not hl (hA (i - 1) m (by omega) (by omega) (by omega) (by omega))) (j := i - 1)
  have above : ∀ t, i ≤ t → t < m → pr κ d[m]! d[t]! := fun t h1 h2 => by
    rcases hr with hr | hr
    · omega
    · exact hs.ge hi0 h1 h2 (pr_of_lt hr)
  intro p q hp hpq hq
  by_cases q1 : q < i
  · rw [hx p (by omega), hx q q1]; exact hs _ _ hp hpq (by omega)
  · by_cases q2 : q = i
    · subst q2; rw [hx p hpq, hy]; exact below _ hp hpq
    · rw [hz q (by omega) hq]
      by_cases p1 : p < i
      · rw [hx p p1]; exact pr_trans (below _ hp p1) (above _ (by omega) (by omega))
      · by_cases p2 : p = i
        · subst p2; rw [hy]; exact above _ (by omega) (by omega)
        · rw [hz p (by omega) (by omega)]; exact hs _ _ (by omega) (by omega) (by omega)

theorem RotOf.triv (a m b : Nat) (d : Array Int) (h : a = m ∨ m = b) : RotOf a m b d d := by
  refine ⟨rfl, fun t => ?_⟩
  congr 1
  unfold rotIx
  repeat' split
  all_goals omega

/-- What the search between two sorted parts found, and the row behind the turn. -/
structure Sym (κ : Int → Int) (a m b st : Nat) (d d1 : Array Int) : Prop where
  am : a < m
  mb : m < b
  s1 : Srt κ a m d
  s2 : Srt κ m b d
  ap : Apt a m b d
  big : (a + b) / 2 < m → (a + b) / 2 + m - b ≤ st ∧ st ≤ (a + b) / 2
  small : m ≤ (a + b) / 2 → a ≤ st ∧ st ≤ m
  hl : (m ≤ (a + b) / 2 ∧ st = a) ∨ ((a + b) / 2 < m ∧ st = (a + b) / 2 + m - b) ∨ (1 ≤ st ∧ a ≤ st - 1 ∧ ¬ κ d[st - 1]! < κ d[(a + b) / 2 + m - st]!)
  hr : (m ≤ (a + b) / 2 ∧ st = m) ∨ ((a + b) / 2 < m ∧ st = (a + b) / 2) ∨ κ d[st]! < κ d[(a + b) / 2 + m - 1 - st]!
  rot : RotOf st m ((a + b) / 2 + m - st) d d1

namespace Sym
variable {κ : Int → Int} {a m b st : Nat} {d d1 : Array Int}
theorem bounds (h : Sym κ a m b st d d1) : a ≤ st ∧ st ≤ m ∧ st ≤ (a + b) / 2 ∧ m ≤ (a + b) / 2 + m - st ∧ (a + b) / 2 + m - st ≤ b ∧ (a + b) / 2 ≤ (a + b) / 2 + m - st ∧ a ≤ (a + b) / 2 ∧ (a + b) / 2 < b := by
  have := h.am; have := h.mb
  by_cases c : (a + b) / 2 < m
  · have := h.big c; omega
  · have := h.small (by omega); omega
theorem at1 (h : Sym κ a m b st d d1) {t : Nat} (ht : t < st) : d1[t]! = d[t]! := by
  rw [h.rot.2]; congr 1; unfold rotIx; rw [if_pos (by omega)]
theorem at2 (h : Sym κ a m b st d d1) {t : Nat} (h1 : st ≤ t) (h2 : t < (a + b) / 2) : d1[t]! = d[m + (t - st)]! := by
  have := h.bounds
  rw [h.rot.2]; congr 1; unfold rotIx; rw [if_neg (by omega), if_pos (by omega)]
theorem at3 (h : Sym κ a m b st d d1) {t : Nat} (h1 : (a + b) / 2 ≤ t) (h2 : t < (a + b) / 2 + m - st) : d1[t]! = d[t - ((a + b) / 2 - st)]! := by
  have := h.bounds
  rw [h.rot.2]; congr 1; unfold rotIx; rw [if_neg (by omega), if_neg (by omega)]; omega
theorem at4 (h : Sym κ a m b st d d1) {t : Nat} (h1 : (a + b) / 2 + m - st ≤ t) : d1[t]! = d[t]! := by
  rw [h.rot.2]; congr 1; unfold rotIx; rw [if_pos (by omega)]

theorem f1 (h : Sym κ a m b st d d1) : Srt κ a st d1 := fun i j h1 h2 h3 => by
  have := h.bounds
  rw [h.at1 (by omega), h.at1 (by omega)]; exact h.s1 _ _ h1 h2 (by omega)
theorem f2 (h : Sym κ a m b st d d1) : Srt κ st ((a + b) / 2) d1 := fun i j h1 h2 h3 => by
  have := h.bounds
  rw [h.at2 h1 (by omega), h.at2 (by omega) h3]; exact h.s2 _ _ (by omega) (by omega) (by omega)
theorem f3 (h : Sym κ a m b st d d1) : Apt a st ((a + b) / 2) d1 := fun i j h1 h2 h3 h4 => by
  have := h.bounds
  rw [h.at1 h2, h.at2 h3 h4]; exact h.ap _ _ h1 (by omega) (by omega) (by omega)
theorem g1 (h : Sym κ a m b st d d1) : Srt κ ((a + b) / 2) ((a + b) / 2 + m - st) d1 := fun i j h1 h2 h3 => by
  have := h.bounds
  rw [h.at3 h1 (by omega), h.at3 (by omega) h3]; exact h.s1 _ _ (by omega) (by omega) (by omega)
theorem g2 (h : Sym κ a m b st d d1) : Srt κ ((a + b) / 2 + m - st) b d1 := fun i j h1 h2 h3 => by
  have := h.bounds
  rw [h.at4 h1, h.at4 (by omega)]; exact h.s2 _ _ (by omega) h2 h3
theorem g3 (h : Sym κ a m b st d d1) : Apt ((a + b) / 2) ((a + b) / 2 + m - st) b d1 := fun i j h1 h2 h3 h4 => by
  have := h.bounds
  rw [h.at3 h1 h2, h.at4 h3]; exact h.ap _ _ (by omega) (by omega) (by omega) h4

/-- All of the first half is ahead of all of the second one. -/
theorem cross (h : Sym κ a m b st d d1) : ∀ i j, a ≤ i → i < (a + b) / 2 → (a + b) / 2 ≤ j → j < b → pr κ d1[i]! d1[j]! := by
  have B := h.bounds
  intro i j h1 h2 h3 h4
  by_cases ci : i < st
  · rw [h.at1 ci]
    by_cases cj : j < (a + b) / 2 + m - st
    · rw [h.at3 h3 cj]; exact h.s1 _ _ h1 (by omega) (by omega)
    · rw [h.at4 (by omega)]
      rcases h.hl with hl | hl | ⟨hl0, hl1, hl⟩
      · omega
      · omega
      · refine h.s1.le h1 (show i ≤ st - 1 by omega) (by omega) ?_
        refine h.s2.ge (i := (a + b) / 2 + m - st) (by omega) (by omega) h4 ?_
        exact pr_of_not hl (h.ap _ _ hl1 (by omega) (by omega) (by omega))
  · rw [h.at2 (by omega) h2]
    by_cases cj : j < (a + b) / 2 + m - st
    · rw [h.at3 h3 cj]
      rcases h.hr with hr | hr | hr
      · omega
      · omega
      · refine h.s2.le (j := (a + b) / 2 + m - 1 - st) (by omega) (by omega) (by omega) ?_
        exact h.s1.ge (i := st) (by omega) (by omega) (by omega) (pr_of_lt hr)
    · rw [h.at4 (by omega)]; exact h.s2 _ _ (by omega) (by omega) h4

theorem half1 (h : Sym κ a m b st d d1) (hc : ¬ (a < st ∧ st < (a + b) / 2)) : Srt κ a ((a + b) / 2) d1 := by
  have := h.bounds
  by_cases e : st = a
  · have := h.f2; rw [e] at this; exact this
  · have : st = (a + b) / 2 := by omega
    have := h.f1; rw [‹st = (a + b) / 2›] at this; exact this
theorem half2 (h : Sym κ a m b st d d1) (hc : ¬ ((a + b) / 2 < (a + b) / 2 + m - st ∧ (a + b) / 2 + m - st < b)) : Srt κ ((a + b) / 2) b d1 := by
  have := h.bounds
  by_cases e : (a + b) / 2 + m - st = b
  · have := h.g1; rw [e] at this; exact this
  · have e2 : (a + b) / 2 + m - st = (a + b) / 2 := by omega
    have := h.g2; rw [e2] at this; exact this
end Sym

theorem Srt.of_eq {κ : Int → Int} {a b : Nat} {d d' : Array Int} (h : Srt κ a b d) (he : ∀ t, a ≤ t → t < b → d'[t]! = d[t]!) : Srt κ a b d' := fun i j h1 h2 h3 => by
  rw [he i h1 (by omega), he j (by omega) h3]; exact h i j h1 h2 h3
theorem Apt.of_eq {a m b : Nat} {d d' : Array Int} (h : Apt a m b d) (he : ∀ t, a ≤ t → t < b → d'[t]! = d[t]!) (hm : a ≤ m) (hmb : m ≤ b) : Apt a m b d' := fun i j h1 h2 h3 h4 => by
  rw [he i h1 (by omega), he j (by omega) h4]; exact h i j h1 h2 h3 h4

/-- Both halves sorted: the whole is. -/
theorem halves {κ : Int → Int} {a mid b : Nat} {d1 d2 d3 : Array Int} (hb : b ≤ d1.size) (h1 : a ≤ mid) (h2 : mid ≤ b)
    (hx : ∀ i j, a ≤ i → i < mid → mid ≤ j → j < b → pr κ d1[i]! d1[j]!)
    (p2 : PermIn a mid d1 d2) (s2 : Srt κ a mid d2) (p3 : PermIn mid b d2 d3) (s3 : Srt κ mid b d3) : PermIn a b d1 d3 ∧ Srt κ a b d3 := by
  refine ⟨permIn_trans _ _ _ _ _ (permIn_mono _ _ _ _ _ _ (Nat.le_refl _) h2 hb p2) (permIn_mono _ _ _ _ _ _ h1 (Nat.le_refl _) (by rw [p2.1]; exact hb) p3), ?_⟩
  have hx2 : ∀ i j, a ≤ i → i < mid → mid ≤ j → j < b → pr κ d2[i]! d1[j]! := fun i j i1 i2 j1 j2 =>
    permIn_all d1 d2 a mid (fun x => pr κ x d1[j]!) (by omega) p2 (fun t t1 t2 => hx t j t1 t2 j1 j2) i i1 i2
  have hx3 : ∀ i j, a ≤ i → i < mid → mid ≤ j → j < b → pr κ d2[i]! d3[j]! := fun i j i1 i2 j1 j2 =>
    permIn_all d2 d3 mid b (fun x => pr κ d2[i]! x) (by rw [p2.1]; exact hb) p3 (fun t t1 t2 => by rw [p2.2.1 t (Or.inr t1)]; exact hx2 i t i1 i2 t1 t2) j j1 j2
  intro i j i1 ij j2
  by_cases cj : j < mid
  · rw [p3.2.1 i (Or.inl (by omega)), p3.2.1 j (Or.inl cj)]; exact s2 i j i1 ij cj
  · by_cases ci : i < mid
    · rw [p3.2.1 i (Or.inl ci)]; exact hx3 i j i1 ci (by omega) j2
    · exact s3 i j (by omega) ij j2

end Go.Proofs.YtadjhofomabbmaaDoor

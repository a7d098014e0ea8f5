/-
  Plain lists of bits, the least one first: what they are worth, and the one list without noughts at its end. No program.
-/
import Derived.Test.YtgeneoamngfomaaGreatDoorLo
import Derived.WalkSpells
import Derived.Deep.DeepCutAuto
import Derived.Deep.LoopGhost
import Derived.StillTailTactics
import Derived.Deep.RegionWith
import Derived.Deep.RegionHeld3
import Derived.OwnWalk
import Derived.Laws.OwnMore
import Derived.Test.YtgeneoamngfomaaGreatDoorDv
namespace Go.Proofs.YtgeneoamngfomaaGreatDoor
set_option linter.unusedVariables false

def val : List Int → Nat
  | [] => 0
  | x :: l => x.toNat + 2 * val l
def IsBits (l : List Int) : Prop := ∀ t, l.getD t 0 = 0 ∨ l.getD t 0 = 1
def Canon (l : List Int) : Prop := l = [] ∨ l.getD (l.length - 1) 0 ≠ 0

def bitsN (n : Nat) : List Int := if h : n = 0 then [] else ((n % 2 : Nat) : Int) :: bitsN (n / 2)
termination_by n
decreasing_by omega

theorem bitsN_zero : bitsN 0 = [] := by rw [bitsN]; simp
theorem bitsN_pos {n : Nat} (h : n ≠ 0) : bitsN n = ((n % 2 : Nat) : Int) :: bitsN (n / 2) := by rw [bitsN]; simp [h]

theorem IsBits.tail {x : Int} {l : List Int} (h : IsBits (x :: l)) : IsBits l := fun t => by have := h (t + 1); simpa using this
theorem IsBits.head {x : Int} {l : List Int} (h : IsBits (x :: l)) : x = 0 ∨ x = 1 := by have := h 0; simpa using this
theorem IsBits.nil : IsBits [] := fun t => Or.inl (by simp)
theorem IsBits.cons {x : Int} {l : List Int} (hx : x = 0 ∨ x = 1) (h : IsBits l) : IsBits (x :: l) := fun t => by
  cases t with
  | zero => simpa using hx
  | succ t => have := h t; simpa using this
theorem IsBits.snoc {x : Int} {l : List Int} (h : IsBits l) (hx : x = 0 ∨ x = 1) : IsBits (l ++ [x]) := fun t => by
  rw [List.getD_eq_getElem?_getD, List.getElem?_append]
  split
  · have := h t; rwa [List.getD_eq_getElem?_getD] at this
  · by_cases e : t - l.length = 0
    · rw [e]; simpa using hx
    · rw [List.getElem?_eq_none (by simp; omega)]; exact Or.inl rfl
theorem IsBits.drop {l : List Int} (h : IsBits l) (i : Nat) : IsBits (l.drop i) := fun t => by
  have := h (i + t); rwa [List.getD_eq_getElem?_getD, ← List.getElem?_drop, ← List.getD_eq_getElem?_getD] at this
theorem IsBits.take {l : List Int} (h : IsBits l) (i : Nat) : IsBits (l.take i) := fun t => by
  rw [List.getD_eq_getElem?_getD, List.getElem?_take]
  split
  · have := h t; rwa [List.getD_eq_getElem?_getD] at this
  · exact Or.inl rfl

theorem bits_of_bitsN : ∀ n, IsBits (bitsN n) := by
  intro n
  induction n using Nat.strongRecOn with
  | _ n ih =>
    by_cases h : n = 0
    · rw [h, bitsN_zero]; exact IsBits.nil
    · rw [bitsN_pos h]; exact IsBits.cons (by omega) (ih _ (by omega))
theorem val_bitsN : ∀ n, val (bitsN n) = n := by
  intro n
  induction n using Nat.strongRecOn with
  | _ n ih =>
    by_cases h : n = 0
    · rw [h, bitsN_zero]; rfl
    · rw [bitsN_pos h, val, ih _ (by omega)]; omega
theorem bitsN_len : ∀ k n, n < 2 ^ k → (bitsN n).length ≤ k
  | 0, n, h => by
    have : n = 0 := by simpa using h
    rw [this, bitsN_zero]; simp
  | k + 1, n, h => by
    by_cases e : n = 0
    · rw [e, bitsN_zero]; simp
    · rw [bitsN_pos e]; have := bitsN_len k (n / 2) (by rw [Nat.pow_succ] at h; omega); simp; omega
theorem bitsN_nil {n : Nat} (h : bitsN n = []) : n = 0 := by have := val_bitsN n; rw [h] at this; exact this.symm
theorem canon_cons {x : Int} {l : List Int} (h : Canon (x :: l)) (hl : l ≠ []) : Canon l := by
  rcases h with h | h
  · cases h
  · right
    have : l.length ≠ 0 := fun e => hl (List.length_eq_zero_iff.1 e)
    obtain ⟨m, hm⟩ : ∃ m, l.length = m + 1 := ⟨l.length - 1, by omega⟩
    simp only [List.length_cons, hm, Nat.add_sub_cancel] at h ⊢
    simpa using h
/-- There is one list of bits of a worth without noughts at its end. -/
theorem canon_eq : ∀ l, IsBits l → Canon l → l = bitsN (val l)
  | [], _, _ => by rw [val, bitsN_zero]
  | x :: l, hb, hc => by
    by_cases hl : l = []
    · subst hl
      have hx := hb.head
      have : x ≠ 0 := by rcases hc with h | h
                         · cases h
                         · simpa using h
      have e : x = 1 := by omega
      subst e
      show [1] = bitsN 1
      rw [bitsN_pos (by omega), show (1 / 2 : Nat) = 0 from rfl, bitsN_zero]; rfl
    · have ih := canon_eq l hb.tail (canon_cons hc hl)
      have hv : val l ≠ 0 := fun e => by rw [e, bitsN_zero] at ih; exact hl ih
      have hx := hb.head
      show x :: l = bitsN (x.toNat + 2 * val l)
      rw [bitsN_pos (by omega), show (x.toNat + 2 * val l) / 2 = val l from by omega, ← ih]
      congr 1; omega
theorem val_snoc (l : List Int) (x : Int) : val (l ++ [x]) = val l + 2 ^ l.length * x.toNat := by
  induction l with
  | nil => simp [val]
  | cons y l ih => simp only [List.cons_append, val, ih, List.length_cons, Nat.pow_succ]; rw [Nat.mul_add, Nat.mul_comm (2 ^ l.length) 2, Nat.mul_assoc]; omega
theorem val_drop (l : List Int) (i : Nat) : val (l.drop i) = (l.getD i 0).toNat + 2 * val (l.drop (i + 1)) := by
  by_cases h : i < l.length
  · rw [List.drop_eq_getElem_cons h, val, List.getD_eq_getElem?_getD, List.getElem?_eq_getElem h]; rfl
  · rw [List.drop_eq_nil_of_le (by omega), List.drop_eq_nil_of_le (by omega), List.getD_eq_getElem?_getD, List.getElem?_eq_none (by omega)]; rfl
theorem val_lt {l : List Int} (h : IsBits l) : val l < 2 ^ l.length := by
  induction l with
  | nil => simp [val]
  | cons x l ih =>
    have := ih h.tail; have := h.head
    simp only [val, List.length_cons, Nat.pow_succ]; omega
theorem val_split (l : List Int) : ∀ i, i ≤ l.length → val l = val (l.take i) + 2 ^ i * val (l.drop i) := by
  induction l with
  | nil => intro i hi; simp at hi; subst hi; simp [val]
  | cons x l ih =>
    intro i hi
    cases i with
    | zero => simp [val]
    | succ i =>
      have := ih i (by simpa using hi)
      simp only [List.take_succ_cons, List.drop_succ_cons, val, Nat.pow_succ]
      rw [this, Nat.mul_add, Nat.mul_comm (2 ^ i) 2, Nat.mul_assoc]; omega
theorem val_zero {l : List Int} (h : ∀ t, l.getD t 0 = 0) : val l = 0 := by
  induction l with
  | nil => rfl
  | cons x l ih =>
    have h0 := h 0
    have := ih (fun t => by have := h (t + 1); simpa using this)
    simp at h0
    simp [val, this, h0]
theorem canon_of_val {l : List Int} (hb : IsBits l) (hc : Canon l) {n : Nat} (h : val l = n) : l = bitsN n := by rw [← h]; exact canon_eq l hb hc

/-- What is left behind noughts are cut off. -/
theorem trim_eq {l : List Int} (hb : IsBits l) {n : Nat} (hn : n ≤ l.length) (hz : ∀ t, n ≤ t → t < l.length → l.getD t 0 = 0) (ht : n = 0 ∨ l.getD (n - 1) 0 ≠ 0) : l.take n = bitsN (val l) := by
  have hd : val (l.drop n) = 0 := val_zero (fun t => by
    by_cases c : n + t < l.length
    · have := hz (n + t) (by omega) c; rwa [List.getD_eq_getElem?_getD, ← List.getElem?_drop, ← List.getD_eq_getElem?_getD] at this
    · rw [List.getD_eq_getElem?_getD, List.getElem?_eq_none (by simp; omega)]; rfl)
  have hs := val_split l n hn
  rw [hd] at hs
  refine canon_of_val (hb.take n) ?_ (by omega)
  rcases ht with h | h
  · subst h; left; simp
  · by_cases e : n = 0
    · subst e; left; simp
    · right
      rw [List.length_take, Nat.min_eq_left hn, List.getD_eq_getElem?_getD, List.getElem?_take, if_pos (by omega), ← List.getD_eq_getElem?_getD]
      exact h

/-- The sign of a difference. -/
def ordZ (x y : Nat) : Int := if x < y then -1 else if y < x then 1 else 0
theorem bitsN_lt {n k : Nat} (h : (bitsN n).length ≤ k) : n < 2 ^ k := by
  have h1 := val_lt (bits_of_bitsN n)
  rw [val_bitsN] at h1
  exact Nat.lt_of_lt_of_le h1 (Nat.pow_le_pow_right (by omega) h)
theorem bitsN_ge {n : Nat} (h : bitsN n ≠ []) : 2 ^ ((bitsN n).length - 1) ≤ n := by
  rcases Nat.lt_or_ge n (2 ^ ((bitsN n).length - 1)) with g | g
  · have := bitsN_len _ _ g
    have : (bitsN n).length ≠ 0 := fun e => h (List.length_eq_zero_iff.1 e)
    omega
  · exact g
theorem len_lt {x y : Nat} (h : (bitsN x).length < (bitsN y).length) : x < y := by
  have h1 := bitsN_lt (Nat.le_refl (bitsN x).length)
  have hy : bitsN y ≠ [] := fun e => by rw [e] at h; simp at h
  have h2 := bitsN_ge hy
  have h3 : 2 ^ (bitsN x).length ≤ 2 ^ ((bitsN y).length - 1) := Nat.pow_le_pow_right (by omega) (by omega)
  omega
/-- The first bit from the top that parts two lists decides. -/
theorem top_lt {a b : List Int} (ha : IsBits a) (hb : IsBits b) (hl : a.length = b.length) {i : Nat} (hi : i < a.length) (hsame : ∀ t, i < t → a.getD t 0 = b.getD t 0) (h : a.getD i 0 < b.getD i 0) : val a < val b := by
  have e1 := val_split a i (by omega)
  have e2 := val_split b i (by omega)
  have d1 := val_drop a i
  have d2 := val_drop b i
  have hr : a.drop (i + 1) = b.drop (i + 1) := by
    apply List.ext_getElem (by simp; omega)
    intro t h1 h2
    have := hsame (i + 1 + t) (by omega)
    rw [List.getD_eq_getElem?_getD, List.getD_eq_getElem?_getD, List.getElem?_eq_getElem (by simp at h1; omega), List.getElem?_eq_getElem (by simp at h2; omega)] at this
    simpa using this
  have l1 := val_lt (ha.take i)
  rw [List.length_take, Nat.min_eq_left (by omega)] at l1
  have xa := ha i
  have xb := hb i
  rw [hr] at d1
  have za : (a.getD i 0).toNat = 0 := by omega
  have zb : (b.getD i 0).toNat = 1 := by omega
  rw [za] at d1
  rw [zb] at d2
  rw [e1, e2, d1, d2, Nat.mul_add, Nat.mul_add]
  have : 2 ^ i * 0 = 0 := Nat.mul_zero _
  have : 2 ^ i * 1 = 2 ^ i := Nat.mul_one _
  omega

end Go.Proofs.YtgeneoamngfomaaGreatDoor

namespace Go.Proofs.YtgeneoamngfomaaGreatDoor
open Go.RowKit
set_option linter.unusedVariables false

/-- A slice of numbers, wherever it lies; nil too. -/
def SLF (w : World) (a : Option Addr) (l : List Int) : Prop := l = [] ∨ ∃ b o, a = some ⟨b, o, none⟩ ∧ b < w.heap.size ∧ Row w b o l
def SL (w : World) (v : Value) (l : List Int) : Prop := ∃ a cap, v = .slice a l.length cap ∧ l.length ≤ cap ∧ cap ≤ 9223372036854775807 ∧ SLF w a l

theorem SLF.keep {w w' : World} {a : Option Addr} {l : List Int} (h : SLF w a l) (hb : Below w.heap.size w w') : SLF w' a l := by
  rcases h with h | ⟨b, o, rfl, h1, h2⟩
  · exact Or.inl h
  · exact Or.inr ⟨b, o, rfl, Nat.lt_of_lt_of_le h1 hb.size, fun t ht => by rw [hb.cell (p := ⟨b, o + t, none⟩) h1]; exact h2 t ht⟩
theorem SL.keep {w w' : World} {v : Value} {l : List Int} (h : SL w v l) (hb : Below w.heap.size w w') : SL w' v l := by
  obtain ⟨a, cap, rfl, h1, h2, h3⟩ := h
  exact ⟨a, cap, rfl, h1, h2, h3.keep hb⟩
theorem SLF.cell {w : World} {a : Option Addr} {l : List Int} (h : SLF w a l) {t : Nat} (ht : t < l.length) : ∃ b o, a = some ⟨b, o, none⟩ ∧ b < w.heap.size ∧ Row w b o l := by
  rcases h with h | h
  · rw [h] at ht; simp at ht
  · exact h
theorem Own.sl {w : World} {base : Nat} {v : Value} {l : List Int} (h : Own w base v l) : SL w v l := by
  obtain ⟨h1, h2⟩ := h
  have hr := Own.reads ⟨h1, h2⟩
  rcases h2 with ⟨rfl, hn⟩ | ⟨g, cap, cur, rfl, hb, hc, h3, h4, h5, h6⟩
  · have e : l = [] := List.length_eq_zero_iff.1 hn
    subst e
    exact ⟨none, 0, rfl, Nat.le_refl _, by omega, Or.inl rfl⟩
  · unfold maxLen at h4
    refine ⟨some ⟨g, 0, none⟩, cap, rfl, h3, h4, ?_⟩
    rcases hr with ⟨e, _⟩ | ⟨g', cap', e, _, h7, h8⟩
    · cases e
    · simp at e
      obtain ⟨rfl, _⟩ := e
      exact Or.inr ⟨g, 0, rfl, h7, h8⟩

theorem at_any (l : List Int) (a : Option Addr) (cap i : Nat) (w : World) (h : SLF w a l) (hn : l.length ≤ 1152921504606846976) (hi : i ≤ 1152921504606846976) :
    Calls Tryz.prog 64 #[.slice a l.length cap, .int .i64 i] w fun e w' => e = .returned (.int .i64 (l.getD i 0)) ∧ w' = w := by
  by_cases c : i < l.length
  · obtain ⟨b, o, rfl, _, hr⟩ := h.cell c
    obtain ⟨x, hx⟩ : ∃ x, x = l.getD i 0 := ⟨_, rfl⟩
    have hc : w.cell? ⟨b, o + i, none⟩ = some (.int .i64 x) := by rw [hx]; exact hr i c
    have HX := Lib.hid hx
    rw [← hx]
    clear hx hr h
    go_enter Tryz.func64, Tryz.ntmps64
    go_wp2
    go_ret
    exact ⟨rfl, rfl⟩
  · have e : l.getD i 0 = 0 := by rw [List.getD_eq_getElem?_getD, List.getElem?_eq_none (by omega)]; rfl
    rw [e]
    clear h e
    go_enter Tryz.func64, Tryz.ntmps64
    go_wp2
    go_ret
    exact ⟨rfl, rfl⟩

theorem SL.of_take {w : World} {a : Option Addr} {l L : List Int} {n cap : Nat} (h : SLF w a l) (hn : n ≤ l.length) (hc : l.length ≤ cap) (hcap : cap ≤ 9223372036854775807) (he : l.take n = L) : SL w (.slice a n cap) L := by
  subst he
  have hl : (l.take n).length = n := by rw [List.length_take]; omega
  refine ⟨a, cap, by rw [hl], by omega, hcap, ?_⟩
  rcases h with rfl | ⟨b, o, rfl, h1, h2⟩
  · exact Or.inl (by simp)
  · refine Or.inr ⟨b, o, rfl, h1, fun t ht => ?_⟩
    rw [hl] at ht
    rw [List.getD_eq_getElem?_getD, List.getElem?_take, if_pos ht, ← List.getD_eq_getElem?_getD]
    exact h2 t (by omega)

/-- Where the cutting off of noughts stands. -/
def TrimK (l : List Int) (n : Nat) : Prop := n ≤ l.length ∧ ∀ t, n ≤ t → t < l.length → l.getD t 0 = 0

/-- Where the comparing from the top stands. -/
def SameFrom (x y : Nat) (i : Int) : Prop := ∀ t : Nat, i < (t : Int) → (bitsN x).getD t 0 = (bitsN y).getD t 0

theorem bits_eq {x y : Nat} (hl : (bitsN x).length = (bitsN y).length) (h : SameFrom x y (-1)) : x = y := by
  have e : bitsN x = bitsN y := by
    apply List.ext_getElem hl
    intro t h1 h2
    have := h t (by omega)
    rw [List.getD_eq_getElem?_getD, List.getD_eq_getElem?_getD, List.getElem?_eq_getElem h1, List.getElem?_eq_getElem h2] at this
    exact this
  have h1 := val_bitsN x
  rw [e, val_bitsN] at h1
  exact h1.symm

set_option maxHeartbeats 1000000 in
theorem ord_any (x y : Nat) (a a' : Option Addr) (c c' : Nat) (w : World) (h : SLF w a (bitsN x)) (h' : SLF w a' (bitsN y)) (hn : (bitsN x).length ≤ 1152921504606846976) (hn' : (bitsN y).length ≤ 1152921504606846976) :
    Calls Tryz.prog 62 #[.slice a (bitsN x).length c, .slice a' (bitsN y).length c'] w fun e w' => e = .returned (.int .i64 (ordZ x y)) ∧ ∃ q, w' = w.drewN q := by
  have H : Hid _ := h
  have H' : Hid _ := h'
  clear h h'
  obtain ⟨p, hp⟩ : ∃ p, p = (bitsN x).length := ⟨_, rfl⟩
  obtain ⟨p', hp'⟩ : ∃ p', p' = (bitsN y).length := ⟨_, rfl⟩
  have HPl := Lib.hid hp
  have HPr := Lib.hid hp'
  rw [← hp] at hn ⊢
  rw [← hp'] at hn' ⊢
  clear hp hp'
  rcases Nat.lt_trichotomy p p' with g | g | g
  · have HO : Hid (ordZ x y = -1) := Lib.hid (by unfold ordZ; rw [if_pos (len_lt (by rw [← HPl.out, ← HPr.out]; exact g))])
    have hb : ((p : Int) != (p' : Int)) = true := by simp; omega
    go_enter Tryz.func62, Tryz.ntmps62
    go_wp2
    go_ret
    exact ⟨ret_int HO.out.symm, 0, rfl⟩
  · subst g
    have hb : ((p : Int) != (p : Int)) = false := by simp
    have HLen : Hid ((bitsN x).length = (bitsN y).length) := Lib.hid (by rw [← HPl.out, HPr.out])
    go_enter Tryz.func62, Tryz.ntmps62
    go_wp2
    go_loopw [5] (fun vi wx => ∃ (i : Int) (q : Nat), -1 ≤ i ∧ i < p ∧ vi = .int .i64 i ∧ wx = w.drewN q ∧ SameFrom x y i) (fun vi _ => (intOf vi + 1).toNat)
    case atStart => exact ⟨(p : Int) - 1, 0, by omega, by omega, rfl, rfl, fun t ht => by
      rw [List.getD_eq_getElem?_getD, List.getD_eq_getElem?_getD, List.getElem?_eq_none (by have := HPl.out; omega), List.getElem?_eq_none (by have := HPr.out; omega)]⟩
    case round =>
      obtain ⟨i, q, hi0, hi1, rfl, hwr, hsm⟩ := hrel
      have HSm := Lib.hid hsm
      clear hsm
      by_cases c : 0 ≤ i
      · obtain ⟨k, rfl⟩ := Int.eq_ofNat_of_zero_le c
        obtain ⟨b, o, ha, _, hr⟩ := SLF.cell H.out (show k < (bitsN x).length by have := HPl.out; omega)
        obtain ⟨b', o', ha', _, hr'⟩ := SLF.cell H'.out (show k < (bitsN y).length by have := HPr.out; omega)
        subst ha
        subst ha'
        obtain ⟨u, hu⟩ : ∃ u, u = (bitsN x).getD k 0 := ⟨_, rfl⟩
        obtain ⟨v, hv⟩ : ∃ v, v = (bitsN y).getD k 0 := ⟨_, rfl⟩
        have hc1 : wr.cell? ⟨b, o + k, none⟩ = some (.int .i64 u) := by rw [hwr, hu]; exact hr k (by have := HPl.out; omega)
        have hc2 : wr.cell? ⟨b', o' + k, none⟩ = some (.int .i64 v) := by rw [hwr, hv]; exact hr' k (by have := HPr.out; omega)
        have hu01 : u = 0 ∨ u = 1 := by rw [hu]; exact bits_of_bitsN x k
        have hv01 : v = 0 ∨ v = 1 := by rw [hv]; exact bits_of_bitsN y k
        have u0 : 0 ≤ u := by omega
        have u1 : u ≤ 1 := by omega
        have v0 : 0 ≤ v := by omega
        have v1 : v ≤ 1 := by omega
        have HU := Lib.hid hu
        have HV := Lib.hid hv
        have HW := Lib.hid hwr
        have i1 : (k : Int) < (p : Int) := by omega
        clear hr hr' hu hv hwr hu01 hv01
        by_cases huv : u = v
        · have hb2 : (u != v) = false := by rw [huv]; simp
          have HUV := Lib.hid huv
          clear huv
          go_wp2
          go_quiet (fail)
          go_wp2
          go_roundw
          case rel =>
            refine ⟨(k : Int) - 1, q + nq, by omega, by omega, rfl, by rw [HW.out, World.drewN_drewN], fun t ht => ?_⟩
            by_cases e : t = k
            · subst e; rw [← HU.out, ← HV.out]; exact HUV.out
            · exact HSm.out t (by omega)
          case measure => simp [intOf]
        · have hb2 : (u != v) = true := by simpa using huv
          have HO : Hid (u - v = ordZ x y) := by
            apply Lib.hid
            unfold ordZ
            have hL := HLen.out
            rcases Int.lt_trichotomy u v with g | g | g
            · have := top_lt (bits_of_bitsN x) (bits_of_bitsN y) hL (i := k) (by have := HPl.out; omega) (fun t ht => HSm.out t (by omega)) (by rw [← HU.out, ← HV.out]; exact g)
              rw [val_bitsN, val_bitsN] at this
              rw [if_pos this]; omega
            · exact absurd g huv
            · have := top_lt (bits_of_bitsN y) (bits_of_bitsN x) hL.symm (i := k) (by have := HPr.out; omega) (fun t ht => (HSm.out t (by omega)).symm) (by rw [← HU.out, ← HV.out]; exact g)
              rw [val_bitsN, val_bitsN] at this
              rw [if_neg (by omega), if_pos this]; omega
          have hws : IntKind.i64.wrap (u - v) = u - v := IntWalk.i64_in _ (by omega)
          clear huv
          go_wp2
          go_quiet (fail)
          go_wp2
          go_quiet (fail)
          go_wp2
          go_ret
          exact ⟨ret_int HO.out, _, by rw [HW.out, World.drewN_drewN, World.drewN_drewN]⟩
      · have e : i = -1 := by omega
        have HO : Hid (ordZ x y = 0) := by
          apply Lib.hid
          have := bits_eq HLen.out (by have := HSm.out; rw [e] at this; exact this)
          subst this
          unfold ordZ; rw [if_neg (by omega), if_neg (by omega)]
        have HW := Lib.hid hwr
        clear hwr e
        go_wp2
        go_ret
        exact ⟨ret_int HO.out.symm, q, HW.out⟩
  · have HO : Hid (ordZ x y = 1) := Lib.hid (by
      have := len_lt (x := y) (y := x) (by rw [← HPl.out, ← HPr.out]; exact g)
      unfold ordZ; rw [if_neg (by omega), if_pos this])
    have hb : ((p : Int) != (p' : Int)) = true := by simp; omega
    go_enter Tryz.func62, Tryz.ntmps62
    go_wp2
    go_ret
    exact ⟨ret_int HO.out.symm, 0, rfl⟩

end Go.Proofs.YtgeneoamngfomaaGreatDoor

namespace Go.Proofs.YtgeneoamngfomaaGreatDoor
open Go.RowKit
set_option linter.unusedVariables false

theorem drewN_below' (w : World) (n : Nat) : Below w.heap.size w (w.drewN n) := ⟨rfl, rfl, rfl, Nat.le_refl _, fun _ _ => rfl⟩

structure MinInv (a b : List Int) (i : Nat) (c : Int) (out : List Int) : Prop where
  len : out.length = i
  bits : IsBits out
  c01 : c = 0 ∨ c = 1
  lim : i ≤ a.length
  sum : (val out : Int) + 2 ^ i * ((val (a.drop i) : Int) - (val (b.drop i) : Int) - c) = (val a : Int) - (val b : Int)

theorem MinInv.start (a b : List Int) : MinInv a b 0 0 [] := ⟨rfl, IsBits.nil, Or.inl rfl, Nat.zero_le _, by simp [val]⟩
theorem MinInv.step {a b : List Int} (ha : IsBits a) (hb : IsBits b) {i : Nat} {c : Int} {out : List Int} (h : MinInv a b i c out) (hi : i < a.length) (n c' : Int)
    (hn : n = a.getD i 0 - b.getD i 0 - c + 2 * c') (h01 : n = 0 ∨ n = 1) (hc' : c' = 0 ∨ c' = 1) : MinInv a b (i + 1) c' (out ++ [n]) := by
  have da := val_drop a i
  have db := val_drop b i
  have xa := ha i
  have xb := hb i
  have hl := h.len
  refine ⟨by rw [List.length_append, hl]; rfl, h.bits.snoc h01, hc', hi, ?_⟩
  have hs := h.sum
  rw [val_snoc, hl]
  rw [da, db] at hs
  rw [← hs]
  have e : ((val out + 2 ^ i * n.toNat : Nat) : Int) = (val out : Int) + 2 ^ i * n := by
    rw [Int.natCast_add, Int.natCast_mul, Int.natCast_pow, Int.toNat_of_nonneg (by omega)]; rfl
  rw [e, Int.pow_succ, Int.mul_assoc, Int.add_assoc, ← Int.mul_add]
  congr 2
  generalize val (a.drop (i + 1)) = A
  generalize val (b.drop (i + 1)) = B
  omega
theorem MinInv.done {a b : List Int} {c : Int} {out : List Int} (h : MinInv a b a.length c out) (hab : val b ≤ val a) : val out = val a - val b ∧ IsBits out := by
  have hs := h.sum
  rw [List.drop_eq_nil_of_le (Nat.le_refl _)] at hs
  have hlt := val_lt h.bits
  rw [h.len] at hlt
  have hlt' : (val out : Int) < 2 ^ a.length := by
    have : ((2 ^ a.length : Nat) : Int) = 2 ^ a.length := by rw [Int.natCast_pow]; rfl
    omega
  have hpos : (0 : Int) < 2 ^ a.length := by
    have : ((2 ^ a.length : Nat) : Int) = 2 ^ a.length := by rw [Int.natCast_pow]; rfl
    have := Nat.two_pow_pos a.length
    omega
  have hc := h.c01
  have hz : (val (b.drop a.length) : Int) + c = 0 := by
    rcases Int.lt_or_le ((val (b.drop a.length) : Int) + c) 1 with g | g
    · omega
    · exfalso
      have h2 : (2 : Int) ^ a.length * 1 ≤ 2 ^ a.length * ((val (b.drop a.length) : Int) + c) := Int.mul_le_mul_of_nonneg_left g (by omega)
      have e : (2 : Int) ^ a.length * (((val ([] : List Int) : Nat) : Int) - (val (b.drop a.length) : Int) - c) = -(2 ^ a.length * ((val (b.drop a.length) : Int) + c)) := by
        rw [← Int.mul_neg]; congr 1; simp [val]; omega
      rw [e] at hs
      omega
  have e : (((val ([] : List Int) : Nat) : Int) - (val (b.drop a.length) : Int) - c) = 0 := by simp [val]; omega
  rw [e, Int.mul_zero] at hs
  exact ⟨by omega, h.bits⟩

end Go.Proofs.YtgeneoamngfomaaGreatDoor

namespace Go.Proofs.YtgeneoamngfomaaGreatDoor
open Go.RowKit
set_option linter.unusedVariables false

/-- A number as the document's answer has it: its sign, and its bits without noughts at their end. -/
def BigV (w : World) (v : Value) (z : Int) : Prop := ∃ s, v = .agg #[.bool (decide (z < 0)), s] ∧ SL w s (bitsN z.natAbs)
theorem BigV.keep {w w' : World} {v : Value} {z : Int} (h : BigV w v z) (hb : Below w.heap.size w w') : BigV w' v z := by
  obtain ⟨s, rfl, hs⟩ := h
  exact ⟨s, rfl, hs.keep hb⟩

structure OfInv (w : World) (neg : Bool) (v : Value) (out : List Int) (wx : World) : Prop where
  below : Below w.heap.size w wx
  size : w.heap.size + 2 ≤ wx.heap.size
  c0 : wx.cell? ⟨w.heap.size + 1, 0, none⟩ = some (.bool neg)
  c1 : wx.cell? ⟨w.heap.size + 1, 1, none⟩ = some v
  f1 : wx.frozen? ⟨w.heap.size + 1, 1, none⟩ = false
  r0 : wx.cell? ⟨w.heap.size, 0, none⟩ = some (.bool false)
  r1 : wx.cell? ⟨w.heap.size, 1, none⟩ = some (.slice none 0 0)
  g0 : wx.frozen? ⟨w.heap.size, 0, none⟩ = false
  g1 : wx.frozen? ⟨w.heap.size, 1, none⟩ = false
  own : Own wx (w.heap.size + 2) v out

theorem Own.setCell {w : World} {base : Nat} {v : Value} {l : List Int} (h : Own w base v l) {p : Addr} (hp : p.block < base) (u : Value) : Own (w.setCell p u) base v l := by
  obtain ⟨h1, h2⟩ := h
  refine ⟨h1, ?_⟩
  rcases h2 with h2 | ⟨g, cap, cur, rfl, hb, hc, h3⟩
  · exact Or.inl h2
  · exact Or.inr ⟨g, cap, cur, rfl, hb, by rw [Below.heap_setCell _ _ _ _ (by omega)]; exact hc, h3⟩

theorem OfInv.step {w : World} {neg : Bool} {v v' : Value} {out : List Int} {wx w1 : World} {x : Int} {o : Obj} (h : OfInv w neg v out wx) (hg : (wx.alloc o).grownBy w1 v.ownBlock) (ho : Own w1 (w.heap.size + 2) v' (out ++ [x])) :
    OfInv w neg v' (out ++ [x]) (w1.setCell ⟨w.heap.size + 1, 1, none⟩ v') := by
  have hsz := h.size
  have hlt := fun k hk => World.ownsRow.lt h.own k hk
  have hs1 := hg.size
  have hs2 : (wx.alloc o).heap.size = wx.heap.size + 1 := by simp
  have keep : ∀ p : Addr, p.block < w.heap.size + 2 → w1.cell? p = wx.cell? p ∧ w1.frozen? p = wx.frozen? p := fun p hp => by
    have hb : w1.heap[p.block]? = (wx.alloc o).heap[p.block]? := hg.block p.block (by omega) (fun e => by have := (hlt p.block e.symm).1; omega)
    have hb2 : (wx.alloc o).heap[p.block]? = wx.heap[p.block]? := Below.heap_alloc wx o p.block (by omega)
    exact ⟨World.cell?_of_block (hb.trans hb2), World.frozen?_of_block (hb.trans hb2)⟩
  refine ⟨?_, by simp; omega, ?_, ?_, ?_, ?_, ?_, ?_, ?_, ho.setCell (by show w.heap.size + 1 < w.heap.size + 2; omega) _⟩
  · exact ((h.below.alloc (by omega) o).grown hg (by simp; omega) (fun k hk => by have := (hlt k hk).1; omega)).setCell (by show w.heap.size ≤ w.heap.size + 1; omega) _
  · rw [cell_other (by intro e; cases e), (keep _ (by show w.heap.size + 1 < w.heap.size + 2; omega)).1]; exact h.c0
  · exact cell_same (by rw [(keep _ (by show w.heap.size + 1 < w.heap.size + 2; omega)).1]; exact h.c1)
  · rw [World.frozen?_setCell, (keep _ (by show w.heap.size + 1 < w.heap.size + 2; omega)).2]; exact h.f1
  · rw [cell_other (by intro e; have := congrArg Addr.block e; simp at this), (keep _ (by show w.heap.size < w.heap.size + 2; omega)).1]; exact h.r0
  · rw [cell_other (by intro e; have := congrArg Addr.block e; simp at this), (keep _ (by show w.heap.size < w.heap.size + 2; omega)).1]; exact h.r1
  · rw [World.frozen?_setCell, (keep _ (by show w.heap.size < w.heap.size + 2; omega)).2]; exact h.g0
  · rw [World.frozen?_setCell, (keep _ (by show w.heap.size < w.heap.size + 2; omega)).2]; exact h.g1

/-- The field, behind the append and ahead of the store. -/
theorem OfInv.kept {w : World} {neg : Bool} {v : Value} {out : List Int} {wx w1 : World} {o : Obj} (h : OfInv w neg v out wx) (hg : (wx.alloc o).grownBy w1 v.ownBlock) :
    w1.cell? ⟨w.heap.size + 1, 1, none⟩ = some v ∧ w1.frozen? ⟨w.heap.size + 1, 1, none⟩ = false := by
  have hsz := h.size
  have hlt := fun k hk => World.ownsRow.lt h.own k hk
  have hs2 : (wx.alloc o).heap.size = wx.heap.size + 1 := by simp
  have hb : w1.heap[w.heap.size + 1]? = (wx.alloc o).heap[w.heap.size + 1]? := hg.block (w.heap.size + 1) (by omega) (fun e => by have := (hlt _ e.symm).1; omega)
  have hb2 : (wx.alloc o).heap[w.heap.size + 1]? = wx.heap[w.heap.size + 1]? := Below.heap_alloc wx o _ (by omega)
  exact ⟨(World.cell?_of_block (a := ⟨w.heap.size + 1, 1, none⟩) (hb.trans hb2)).trans h.c1, (World.frozen?_of_block (a := ⟨w.heap.size + 1, 1, none⟩) (hb.trans hb2)).trans h.f1⟩

theorem half_abs (n : Int) : (n.tdiv 2).natAbs = n.natAbs / 2 ∧ (n.tmod 2).natAbs = n.natAbs % 2 := by
  rcases Int.lt_or_le n 0 with h | h
  · obtain ⟨m, hm⟩ : ∃ m : Nat, n = -(m : Int) := ⟨n.natAbs, by omega⟩
    subst hm
    rw [Int.neg_tdiv, Int.neg_tmod, Int.tdiv_eq_ediv_of_nonneg (by omega), Int.tmod_eq_emod_of_nonneg (by omega)]
    omega
  · rw [Int.tdiv_eq_ediv_of_nonneg h, Int.tmod_eq_emod_of_nonneg h]; omega

set_option maxHeartbeats 2000000 in
set_option maxRecDepth 100000 in
theorem of_any (n0 : Int) (w : World) (b0 : -9223372036854775808 ≤ n0) (b1 : n0 ≤ 9223372036854775807) :
    Calls Tryz.prog 33 #[.int .i64 n0] w fun e w' => (∃ v, e = .returned v ∧ BigV w' v n0) ∧ Below w.heap.size w w' := by
  obtain ⟨i0, hi0, hz0, hz1, hz2⟩ := info_parts Tryz.infoI
  obtain ⟨neg, hneg⟩ : ∃ neg, decide (n0 < 0) = neg := ⟨_, rfl⟩
  have HNeg := Lib.hid hneg
  go_enter Tryz.func33, Tryz.ntmps33
  go_wp2
  go_loopw [0, 4] (fun vn vb wx => ∃ (n : Int) (v : Value) (out : List Int), vn = .int .i64 n ∧ -9223372036854775808 ≤ n ∧ n ≤ 9223372036854775807 ∧ OfInv w neg v out wx ∧ bitsN n0.natAbs = out ++ bitsN n.natAbs ∧ out.length + (bitsN n.natAbs).length ≤ 64) (fun vn _ _ => (intOf vn).natAbs)
  case atStart =>
    refine ⟨n0, .slice none 0 0, [], rfl, b0, b1, ⟨?_, by simp, by simp, by simp, by simp, by simp, by simp, by simp, by simp, Own.nil _ _⟩, rfl, ?_⟩
    · exact Below.alloc (Below.alloc (Below.refl _ w) (Nat.le_refl _) _) (by simp) _
    · have := bitsN_len 64 n0.natAbs (by omega); simpa using this
  case round =>
    obtain ⟨n, v, out, rfl, n0', n1', hinv, heq, hlen⟩ := hrel
    obtain ⟨pa, pc, hv, _, _, _⟩ := hinv.own.sl
    subst hv
    have c0 := hinv.c0
    have c1 := hinv.c1
    have f1 := hinv.f1
    have r0 := hinv.r0
    have r1 := hinv.r1
    have g0 := hinv.g0
    have g1 := hinv.g1
    have hsz := hinv.size
    by_cases hz : n = 0
    · have hzb : (n != 0) = false := by rw [hz]; rfl
      have HInv := Lib.hid hinv
      have HEq := Lib.hid heq
      have HZ := Lib.hid hz
      clear hz hinv heq
      go_wp2
      refine bodyPost_ret (v := .agg #[.bool neg, .slice pa out.length pc]) (by simp [results, Tryz.results33, go_sem, r0, r1]) rfl ?_
      have ho := (HInv.out.own.setCell (p := ⟨w.heap.size, 0, none⟩) (by show w.heap.size < w.heap.size + 2; omega) (.bool neg)).setCell (p := ⟨w.heap.size, 1, none⟩) (by show w.heap.size < w.heap.size + 2; omega) (.slice pa out.length pc)
      have e1 : bitsN n0.natAbs = out := by have := HEq.out; rw [HZ.out] at this; rw [this]; simp [bitsN_zero]
      refine ⟨⟨_, rfl, _, by rw [HNeg.out], by rw [e1]; exact ho.sl⟩, (HInv.out.below.setCell (Nat.le_refl _) _).setCell (Nat.le_refl _) _⟩
    · obtain ⟨r, hr⟩ : ∃ r, n.tmod 2 = r := ⟨_, rfl⟩
      obtain ⟨m, hm⟩ : ∃ m, n.tdiv 2 = m := ⟨_, rfl⟩
      have ha := half_abs n
      rw [hr, hm] at ha
      have hr0 : -1 ≤ r := by omega
      have hr1 : r ≤ 1 := by omega
      have hm0 : -9223372036854775808 ≤ m := by omega
      have hm1 : m ≤ 9223372036854775807 := by omega
      have hwm : wrap64 m = m := IntWalk.wrap64_in _ ⟨hm0, hm1⟩
      have hzb : (n != 0) = true := by simpa using hz
      have hbn : bitsN n.natAbs = ((n.natAbs % 2 : Nat) : Int) :: bitsN (n.natAbs / 2) := bitsN_pos (by omega)
      rw [hbn, ← ha.1] at heq hlen
      have hsnoc : bitsN n0.natAbs = (out ++ [((n.natAbs % 2 : Nat) : Int)]) ++ bitsN m.natAbs := by rw [heq]; simp
      have hdec : m.natAbs < n.natAbs := by omega
      have hlen2 : out.length + 1 + (bitsN m.natAbs).length ≤ 64 := by simp at hlen; omega
      have h63 : out.length + 1 ≤ maxLen := by unfold maxLen; omega
      have hby : (out.length + 1) * 8 ≤ 140737488355328 := by omega
      have hown := hinv.own
      have HInv := Lib.hid hinv
      have HSn := Lib.hid hsnoc
      have HL := Lib.hid hlen2
      have HAb := Lib.hid ha
      have HDec := Lib.hid hdec
      clear hz hinv heq hlen hbn hsnoc hlen2 ha hdec
      by_cases hrn : r < 0
      · have HX : Hid ((1 : Int) = ((n.natAbs % 2 : Nat) : Int)) := Lib.hid (by have := HAb.out; omega)
        clear c0 r0 r1 g0 g1
        go_wp2_with (at_builtin; refine wpList_append_own _ rfl _ _ 83 rfl (w.heap.size + 2) 3 i0 (.int .i64 0) 1 8 Tryz.underlying83 hi0 hz0 hz1 hz2 rfl (by decide) _ _ _ rfl (hown.alloc _) ⟨wr.heap.size, 0, none⟩ 1 1 [.int .i64 1] rfl rfl (one_cell wr _ _) (one_one _) h63 hby (by simp; omega) ?_; intro v' w1 hown' hgrow _; have HSt := Lib.hid (HInv.out.step hgrow (own_snoc hown')); have k1 := HInv.out.kept hgrow; have k2 := k1.1; have k3 := k1.2; obtain ⟨pa', pc', hv', _, _, _⟩ := (own_snoc hown').sl; clear k1 hown' hgrow hown c1 f1; subst hv')
        go_wp2
        go_roundw
        case rel => exact ⟨m, _, out ++ [1], rfl, hm0, hm1, by have h := HSt.out; simp only [List.length_append, List.length_cons, List.length_nil, Nat.zero_add] at h; exact h, by rw [HX.out]; exact HSn.out, by have := HL.out; rw [List.length_append]; simpa using this⟩
        case measure => exact HDec.out
      · have HX : Hid (r = ((n.natAbs % 2 : Nat) : Int)) := Lib.hid (by have := HAb.out; omega)
        clear c0 r0 r1 g0 g1
        go_wp2_with (at_builtin; refine wpList_append_own _ rfl _ _ 83 rfl (w.heap.size + 2) 3 i0 (.int .i64 0) 1 8 Tryz.underlying83 hi0 hz0 hz1 hz2 rfl (by decide) _ _ _ rfl (hown.alloc _) ⟨wr.heap.size, 0, none⟩ 1 1 [.int .i64 r] rfl rfl (one_cell wr _ _) (one_one _) h63 hby (by simp; omega) ?_; intro v' w1 hown' hgrow _; have HSt := Lib.hid (HInv.out.step hgrow (own_snoc hown')); have k1 := HInv.out.kept hgrow; have k2 := k1.1; have k3 := k1.2; obtain ⟨pa', pc', hv', _, _, _⟩ := (own_snoc hown').sl; clear k1 hown' hgrow hown c1 f1; subst hv')
        go_wp2
        go_roundw
        case rel => exact ⟨m, _, out ++ [r], rfl, hm0, hm1, by have h := HSt.out; simp only [List.length_append, List.length_cons, List.length_nil, Nat.zero_add] at h; exact h, by rw [HX.out]; exact HSn.out, by have := HL.out; rw [List.length_append]; simpa using this⟩
        case measure => exact HDec.out

end Go.Proofs.YtgeneoamngfomaaGreatDoor

namespace Go.Proofs.YtgeneoamngfomaaGreatDoor
open Go.RowKit
set_option linter.unusedVariables false

theorem bitsN_len_pos {z : Int} : 0 < (bitsN z.natAbs).length ↔ z ≠ 0 := by
  constructor
  · intro h e; subst e; rw [show (0 : Int).natAbs = 0 from rfl, bitsN_zero] at h; simp at h
  · intro h
    rcases Nat.eq_zero_or_pos (bitsN z.natAbs).length with g | g
    · have := bitsN_nil (List.length_eq_zero_iff.1 g); omega
    · exact g

/-- A number, by its sign and its slice. -/
def BigA (w : World) (z : Int) (a : Option Addr) (c : Nat) : Prop := SLF w a (bitsN z.natAbs) ∧ (bitsN z.natAbs).length ≤ c ∧ c ≤ 9223372036854775807
theorem BigV.open {w : World} {v : Value} {z : Int} (h : BigV w v z) : ∃ a c, v = .agg #[.bool (decide (z < 0)), .slice a (bitsN z.natAbs).length c] ∧ BigA w z a c := by
  obtain ⟨s, rfl, a, c, rfl, h1, h2, h3⟩ := h
  exact ⟨a, c, rfl, h3, h1, h2⟩
theorem BigA.keep {w w' : World} {z : Int} {a : Option Addr} {c : Nat} (h : BigA w z a c) (hb : Below w.heap.size w w') : BigA w' z a c := ⟨h.1.keep hb, h.2⟩

/-- A store into a cell that holds no number leaves a slice of numbers as it was. -/
theorem SL.setCell {w : World} {v : Value} {l : List Int} (h : SL w v l) {p : Addr} {u : Value} (hu : w.cell? p = some u) (hn : ∀ n, u ≠ .int .i64 n) (x : Value) : SL (w.setCell p x) v l := by
  obtain ⟨a, c, rfl, h1, h2, h3⟩ := h
  refine ⟨a, c, rfl, h1, h2, ?_⟩
  rcases h3 with h3 | ⟨b, o, rfl, h4, h5⟩
  · exact Or.inl h3
  · refine Or.inr ⟨b, o, rfl, by simpa using h4, fun t ht => ?_⟩
    rw [cell_other (fun e => ?_)]
    · exact h5 t ht
    · have := h5 t ht
      rw [← e, hu] at this
      simp at this
      exact hn _ this

/-- The result's cell, filled. -/
theorem big_stored {w : World} {r : Nat} {b : Bool} {v : Value} {z : Int} (hb : b = decide (z < 0)) (hs : SL w v (bitsN z.natAbs)) {u0 : Bool} {a1 : Option Addr} {n1 c1 : Nat} (c0 : w.cell? ⟨r, 0, none⟩ = some (.bool u0)) (c1' : w.cell? ⟨r, 1, none⟩ = some (.slice a1 n1 c1)) :
    BigV ((w.setCell ⟨r, 0, none⟩ (.bool b)).setCell ⟨r, 1, none⟩ v) (.agg #[.bool b, v]) z := by
  subst hb
  refine ⟨v, rfl, (hs.setCell c0 (by intro n; simp) _).setCell (u := .slice a1 n1 c1) (by rw [cell_other (by intro e; cases e)]; exact c1') (by intro n; simp) _⟩

theorem new_at {w : World} {c : Array Value} {e : TypeId} {v : Value} {i : Nat} (h : c[i]? = some v) : (w.alloc (.cells c e)).cell? ⟨w.heap.size, i, none⟩ = some v := by
  rw [World.cell?_alloc_at _ _ _ _ rfl]; exact h

end Go.Proofs.YtgeneoamngfomaaGreatDoor

namespace Go.Proofs.YtgeneoamngfomaaGreatDoor
open Go.RowKit
set_option linter.unusedVariables false

end Go.Proofs.YtgeneoamngfomaaGreatDoor

namespace Go.Proofs.YtgeneoamngfomaaGreatDoor
open Go.RowKit
set_option linter.unusedVariables false

theorem run_append_none_any {P : Program} {w : World} (base : Nat) (t ty e : TypeId) (i : TypeInfo) (size : Nat) (ht : P.underlying t = some (.slice e)) (hi : P.info? e = some i)
    (v : Value) (n c : Nat) (xs : List Value) (hown : w.ownsRow base e size v n xs) :
    (Builtin.append_ #[t, t] ty #[v, .slice none 0 c]).run P w = .ok v w := by
  rcases hown.2 with ⟨rfl, rfl⟩ | ⟨g, cap, cur, rfl, _, _, hnc, _⟩
  · simp [Builtin.append_, run_underlying ht, sizeOf, typeInfo, hi, Builtin.lenOf, Builtin.firstCells]
  · simp [Builtin.append_, run_underlying ht, sizeOf, typeInfo, hi, Builtin.lenOf, Builtin.firstCells, hnc, storeCells]

theorem wpList_append_none_any {P : Program} {w : World} {ops : Array Oper} {rest : List Oper} {o : Oper} {a : Act} {Q : Exit → Act → World → Prop} (hgd : o.guard = none) (s x : Operand) (t : TypeId)
    (ho : o.op = .call { callee := .builtin .append, args := #[s, x], argTypes := #[t, t] })
    (base : Nat) (e : TypeId) (i : TypeInfo) (size : Nat) (ht : P.underlying t = some (.slice e)) (hi : P.info? e = some i)
    (v : Value) (n c : Nat) (xs : List Value) (hs : a.eval s = v) (hown : w.ownsRow base e size v n xs) (hx : a.eval x = .slice none 0 c)
    (h : wpList P ops Q rest (a.put o.dst v) w) : wpList P ops Q (o :: rest) a w := by
  refine wpList_plain hgd fun K hK => ?_
  have hrun := run_append_none_any (P := P) (w := w) base t o.type e i size ht hi v n c xs hown
  unfold Oper.wp
  simp [execOp, ho, resolve, invoke, builtin, hs, hx, hrun, Result.andThen]
  exact hK _ _ h

theorem below_app {w w2 : World} {o : Obj} (hg : (w.alloc o).grownBy w2 (some w.heap.size)) : Below w.heap.size w w2 :=
  Below.grown (Below.alloc (Below.refl _ w) (Nat.le_refl _) o) hg (by simp) (by intro k hk; cases hk; exact Nat.le_refl _)

theorem row_news {w : World} {b o : Nat} {l : List Int} (h : Row w b o l) : ∀ j u, (l.map (Value.int .i64))[j]? = some u → w.cell? ((⟨b, o, none⟩ : Addr).add j) = some u := by
  intro j u hj
  rw [List.getElem?_map] at hj
  by_cases g : j < l.length
  · have := h j g
    rw [List.getElem?_eq_getElem g] at hj
    rw [List.getD_eq_getElem?_getD, List.getElem?_eq_getElem g] at this
    simp at hj this
    subst hj
    rw [show ((⟨b, o, none⟩ : Addr).add j) = ⟨b, o + j, none⟩ from by simp [Addr.add]]
    exact this
  · rw [List.getElem?_eq_none (by omega)] at hj; cases hj
theorem news_one (l : List Int) : ∀ u ∈ l.map (Value.int .i64), u.oneCell' = true := by
  intro u hu; obtain ⟨x, _, rfl⟩ := List.mem_map.1 hu; rfl

theorem slf_news {w : World} {ad : Addr} {l : List Int} (h : SLF w (some ad) l) : ∀ j u, (l.map (Value.int .i64))[j]? = some u → w.cell? (ad.add j) = some u := by
  rcases h with rfl | ⟨b, o, e, _, hr⟩
  · intro j u hj; simp at hj
  · cases e; exact row_news hr
theorem Own.base {w : World} {b b' : Nat} {v : Value} {l : List Int} (h : Own w b v l) (hb : b' ≤ b) : Own w b' v l := by
  obtain ⟨h1, h2⟩ := h
  refine ⟨h1, ?_⟩
  rcases h2 with h2 | ⟨g, cap, cur, e, hg, h3⟩
  · exact Or.inl h2
  · exact Or.inr ⟨g, cap, cur, e, Nat.le_trans hb hg, h3⟩

end Go.Proofs.YtgeneoamngfomaaGreatDoor

namespace Go.Proofs.YtgeneoamngfomaaGreatDoor
open Go.RowKit
set_option linter.unusedVariables false

def FitsZ (z : Int) : Prop := -9223372036854775808 ≤ z ∧ z ≤ 9223372036854775807
def DropV (z i s : Int) : Prop := s = -(val ((bitsN z.natAbs).drop (i + 1).toNat) : Int)
def LowZ (z : Int) (i : Nat) : Prop := ∀ t, t < i → (bitsN z.natAbs).getD t 0 = 0

theorem val_drop_le (l : List Int) (i : Nat) : val (l.drop i) ≤ val l := by
  by_cases h : i ≤ l.length
  · rw [val_split l i h]
    have : 1 ≤ 2 ^ i := Nat.one_le_two_pow
    have : 1 * val (l.drop i) ≤ 2 ^ i * val (l.drop i) := Nat.mul_le_mul_right _ this
    omega
  · rw [List.drop_eq_nil_of_le (by omega)]; exact Nat.zero_le _
theorem DropV.start {z i : Int} {m : Nat} (hm : m = (bitsN z.natAbs).length) (hi : i = (m : Int) - 1) : DropV z i 0 := by
  unfold DropV
  rw [List.drop_eq_nil_of_le (by omega)]; rfl
theorem DropV.step {z s u : Int} {k : Nat} (h : DropV z k s) (hu : u = (bitsN z.natAbs).getD k 0) : DropV z ((k : Int) - 1) (2 * s - u) ∧ -(z.natAbs : Int) ≤ 2 * s ∧ -(z.natAbs : Int) ≤ 2 * s - u ∧ s ≤ 0 ∧ 0 ≤ u := by
  unfold DropV at *
  have h1 := val_drop (bitsN z.natAbs) k
  have h2 := val_drop_le (bitsN z.natAbs) k
  rw [val_bitsN] at h2
  have h3 : u = 0 ∨ u = 1 := by rw [hu]; exact bits_of_bitsN _ k
  rw [← hu] at h1
  have e1 : ((k : Int) + 1).toNat = k + 1 := by omega
  have e2 : ((k : Int) - 1 + 1).toNat = k := by omega
  rw [e1] at h
  rw [e2]
  omega
theorem DropV.done {z s : Int} (h : DropV z (-1) s) : s = -(z.natAbs : Int) := by
  unfold DropV at h
  rw [show ((-1 : Int) + 1).toNat = 0 from rfl, List.drop_zero, val_bitsN] at h; exact h

theorem bits_zero : ∀ l : List Int, IsBits l → val l = 0 → ∀ t, l.getD t 0 = 0
  | [], _, _, t => by simp
  | x :: l, hb, hv, t => by
    have h1 : x.toNat + 2 * val l = 0 := hv
    have h2 := hb.head
    match t with
    | 0 => show x = 0; omega
    | t + 1 => have := bits_zero l hb.tail (by omega) t; simpa using this
theorem low_take {l : List Int} {i : Nat} (h : ∀ t, t < i → l.getD t 0 = 0) : val (l.take i) = 0 := by
  apply val_zero
  intro t
  by_cases g : t < i
  · have := h t g
    rw [List.getD_eq_getElem?_getD] at this ⊢
    rw [List.getElem?_take, if_pos g]; exact this
  · rw [List.getD_eq_getElem?_getD, List.getElem?_take, if_neg g]; rfl
theorem top_half {z : Int} (hm : 64 = (bitsN z.natAbs).length) : val ((bitsN z.natAbs).drop 63) = 1 ∧ z.natAbs = val ((bitsN z.natAbs).take 63) + 2 ^ 63 := by
  have h1 := val_split (bitsN z.natAbs) 63 (by omega)
  have h2 : z.natAbs < 2 ^ 64 := bitsN_lt (by omega)
  have h3 : 2 ^ 63 ≤ z.natAbs := by
    have := bitsN_ge (n := z.natAbs) (by intro e; rw [e] at hm; simp at hm)
    rw [← hm] at this; exact this
  have h4 := val_lt (IsBits.take (bits_of_bitsN z.natAbs) 63)
  rw [List.length_take, ← hm, show min 63 64 = 63 from rfl] at h4
  rw [val_bitsN] at h1
  have h5 : val ((bitsN z.natAbs).drop 63) = 1 := by omega
  rw [h5] at h1
  exact ⟨h5, by omega⟩
theorem low_half {z : Int} (hm : 64 = (bitsN z.natAbs).length) (h : LowZ z 63) : z.natAbs = 9223372036854775808 := by
  have := (top_half hm).2
  rw [low_take h] at this; omega
theorem half_low {z : Int} (hm : 64 = (bitsN z.natAbs).length) (h : z.natAbs = 9223372036854775808) : LowZ z 63 := by
  intro t ht
  have h1 := (top_half hm).2
  have h2 := bits_zero _ (IsBits.take (bits_of_bitsN z.natAbs) 63) (by omega) t
  rw [List.getD_eq_getElem?_getD, List.getElem?_take, if_pos ht] at h2
  rw [List.getD_eq_getElem?_getD]; exact h2
theorem len_63 {z : Int} {m : Nat} (hm : m = (bitsN z.natAbs).length) (h : m ≤ 63) : z.natAbs < 9223372036854775808 := by
  have := bitsN_lt (n := z.natAbs) (k := 63) (by omega)
  exact this
theorem len_65 {z : Int} {m : Nat} (hm : m = (bitsN z.natAbs).length) (h : 64 < m) : ¬ FitsZ z := by
  have h1 := bitsN_ge (n := z.natAbs) (by intro e; rw [e] at hm; simp at hm; omega)
  have h2 : 2 ^ 64 ≤ z.natAbs := Nat.le_trans (Nat.pow_le_pow_right (by omega) (by omega)) h1
  unfold FitsZ; omega
theorem len_64 {z : Int} (hm : 64 = (bitsN z.natAbs).length) : FitsZ z ↔ LowZ z 63 ∧ z < 0 := by
  constructor
  · intro h
    have h1 := (top_half hm).2
    unfold FitsZ at h
    exact ⟨half_low hm (by omega), by omega⟩
  · rintro ⟨h, g⟩
    have := low_half hm h
    unfold FitsZ; omega

/-- What Int leaves. -/
def IntPost (z : Int) (w : World) (e : Ending) (w' : World) : Prop :=
  (FitsZ z → e = .returned (.tuple #[.int .i64 z, .bool true])) ∧ (¬ FitsZ z → e = .returned (.tuple #[.int .i64 0, .bool false])) ∧ Below w.heap.size w w'

theorem int_bad {z : Int} {w w' : World} (h : ¬ FitsZ z) (hb : Below w.heap.size w w') : IntPost z w (.returned (.tuple #[.int .i64 0, .bool false])) w' := ⟨fun g => absurd g h, fun _ => rfl, hb⟩
theorem int_good {z n : Int} {w w' : World} (h : FitsZ z) (hn : n = z) (hb : Below w.heap.size w w') : IntPost z w (.returned (.tuple #[.int .i64 n, .bool true])) w' := ⟨fun _ => by rw [hn], fun g => absurd h g, hb⟩

theorem int_ends {z s : Int} {sg : Bool} (hs : decide (z < 0) = sg) (h : DropV z (-1) s) (hf : FitsZ z) : (sg = true → s = z) ∧ (sg = false → -s = z ∧ IntKind.i64.wrap (-s) = -s) := by
  have := h.done
  unfold FitsZ at hf
  constructor
  · intro e; subst e; have := of_decide_eq_true hs; omega
  · intro e; subst e; have := of_decide_eq_false hs
    exact ⟨by omega, IntWalk.i64_in _ (by omega)⟩

set_option maxHeartbeats 4000000 in
set_option maxRecDepth 100000 in
theorem rint_main (z : Int) (a : Option Addr) (c m : Nat) (w : World) (h : BigA w z a c) (hm : m = (bitsN z.natAbs).length) (hlim : m ≤ 1000000) (sg : Bool) (hs : decide (z < 0) = sg) :
    Calls Tryz.prog 31 #[.agg #[.bool sg, .slice a m c]] w (IntPost z w) := by
  have hB : Below w.heap.size w (w.alloc (.cells #[.bool sg, .slice a m c] 88)) := Below.alloc (Below.refl _ w) (Nat.le_refl _) _
  have HBl := Lib.hid hB
  have HK : Hid (SLF (w.alloc (.cells #[.bool sg, .slice a m c] 88)) a (bitsN z.natAbs)) := Lib.hid (h.1.keep hB)
  have HM := Lib.hid hm
  have HS := Lib.hid hs
  clear hs h
  by_cases c1 : 64 < m
  · have HN := Lib.hid (len_65 hm c1)
    clear hm hB
    go_enter Tryz.func31, Tryz.ntmps31
    go_wp2
    go_ret2
    exact int_bad HN.out HBl.out
  · by_cases c2 : m = 64
    · subst c2
      have HL := Lib.hid (len_64 hm)
      clear hm hB
      go_enter Tryz.func31, Tryz.ntmps31
      go_wp2
      go_loopw [4] (fun vi wx => ∃ (i : Nat), vi = .int .i64 i ∧ i ≤ 63 ∧ LowZ z i ∧ wx = (w.alloc (.cells #[.bool sg, .slice a 64 c] 88))) (fun vi _ => 63 - (intOf vi).toNat)
      case atStart => exact ⟨0, rfl, by omega, fun t ht => absurd ht (by omega), rfl⟩
      case round =>
        obtain ⟨i, rfl, hi, hlow, rfl⟩ := hrel
        by_cases c3 : i < 63
        · obtain ⟨bb, oo, hpa, hpb, hpr⟩ := HK.out.cell (t := i) (by have := HM.out; omega)
          obtain ⟨u, hu⟩ : ∃ u, u = (bitsN z.natAbs).getD i 0 := ⟨_, rfl⟩
          have hcx : (w.alloc (.cells #[.bool sg, .slice a 64 c] 88)).cell? ⟨bb, oo + i, none⟩ = some (.int .i64 u) := by rw [hu]; exact hpr i (by have := HM.out; omega)
          subst hpa
          by_cases c4 : u = 0
          · have HI : Hid (LowZ z (i + 1)) := Lib.hid (fun t ht => by
              by_cases e : t = i
              · subst e; rw [← hu]; exact c4
              · exact hlow t (by omega))
            subst c4
            clear hlow hu hpr hpb
            go_wp2
            go_roundw
            case rel => exact ⟨i + 1, by go_num, by omega, HI.out, trivial⟩
            case measure => simp [intOf]; omega
          · have HN : Hid (¬ FitsZ z) := Lib.hid (fun g => c4 (by rw [hu]; exact (HL.out.1 g).1 i c3))
            have hb2 : (u != 0) = true := by simpa using c4
            clear hlow hu hpr hpb c4
            go_wp2
            go_ret2
            exact int_bad HN.out HBl.out
        · have e : i = 63 := by omega
          subst e
          cases sg
          · have HN : Hid (¬ FitsZ z) := Lib.hid (fun g => absurd (HL.out.1 g).2 (of_decide_eq_false HS.out))
            clear hlow
            go_wp2
            go_ret2
            exact int_bad HN.out HBl.out
          · have HF : Hid (FitsZ z) := Lib.hid (HL.out.2 ⟨hlow, of_decide_eq_true HS.out⟩)
            clear hlow
            go_wp2
            go_loopw [5, 6] (fun vn vi wx => ∃ (i s : Int), -1 ≤ i ∧ i < 64 ∧ vi = .int .i64 i ∧ vn = .int .i64 s ∧ DropV z i s ∧ wx = (w.alloc (.cells #[.bool true, .slice a 64 c] 88))) (fun _ vi _ => (intOf vi + 1).toNat)
            case atStart => exact ⟨63, 0, by omega, by omega, by go_num, rfl, DropV.start HM.out rfl, rfl⟩
            case round =>
              obtain ⟨i, s, hi0, hi1, rfl, rfl, hdv, rfl⟩ := hrel
              by_cases c1 : 0 ≤ i
              · obtain ⟨k, rfl⟩ := Int.eq_ofNat_of_zero_le c1
                obtain ⟨bb, oo, hpa, hpb, hpr⟩ := HK.out.cell (t := k) (by have := HM.out; omega)
                obtain ⟨u, hu⟩ : ∃ u, u = (bitsN z.natAbs).getD k 0 := ⟨_, rfl⟩
                have hcx : (w.alloc (.cells #[.bool true, .slice a 64 c] 88)).cell? ⟨bb, oo + k, none⟩ = some (.int .i64 u) := by rw [hu]; exact hpr k (by have := HM.out; omega)
                subst hpa
                obtain ⟨d1, d2, d3, d4, d5⟩ := hdv.step hu
                have hfz := HF.out
                unfold FitsZ at hfz
                have hab : (z.natAbs : Int) ≤ 9223372036854775808 := by omega
                have w1 : IntKind.i64.wrap (2 * s) = 2 * s := IntWalk.i64_in _ (by omega)
                have w2 : IntKind.i64.wrap (2 * s - u) = 2 * s - u := IntWalk.i64_in _ (by omega)
                have HD := Lib.hid d1
                clear d1 d2 d3 d4 d5 hfz hab hdv hu hpr hpb
                go_wp2
                go_roundw
                case rel => exact ⟨(k : Int) - 1, 2 * s - u, by omega, by omega, rfl, rfl, HD.out, trivial⟩
                case measure => simp [intOf]
              · have e : i = -1 := by omega
                subst e
                obtain ⟨d1, d2⟩ := int_ends HS.out hdv HF.out
                have HE := Lib.hid (d1 rfl)
                clear d1 d2 hdv
                go_wp2
                go_ret2
                exact int_good HF.out HE.out HBl.out
    · have HF : Hid (FitsZ z) := Lib.hid (by have := len_63 hm (by omega); unfold FitsZ; omega)
      clear hm hB
      go_enter Tryz.func31, Tryz.ntmps31
      go_wp2
      go_loopw [5, 6] (fun vn vi wx => ∃ (i s : Int), -1 ≤ i ∧ i < m ∧ vi = .int .i64 i ∧ vn = .int .i64 s ∧ DropV z i s ∧ wx = (w.alloc (.cells #[.bool sg, .slice a m c] 88))) (fun _ vi _ => (intOf vi + 1).toNat)
      case atStart => exact ⟨(m : Int) - 1, 0, by omega, by omega, by go_num, rfl, DropV.start HM.out rfl, rfl⟩
      case round =>
        obtain ⟨i, s, hi0, hi1, rfl, rfl, hdv, rfl⟩ := hrel
        by_cases c1 : 0 ≤ i
        · obtain ⟨k, rfl⟩ := Int.eq_ofNat_of_zero_le c1
          obtain ⟨bb, oo, hpa, hpb, hpr⟩ := HK.out.cell (t := k) (by have := HM.out; omega)
          obtain ⟨u, hu⟩ : ∃ u, u = (bitsN z.natAbs).getD k 0 := ⟨_, rfl⟩
          have hcx : (w.alloc (.cells #[.bool sg, .slice a m c] 88)).cell? ⟨bb, oo + k, none⟩ = some (.int .i64 u) := by rw [hu]; exact hpr k (by have := HM.out; omega)
          subst hpa
          obtain ⟨d1, d2, d3, d4, d5⟩ := hdv.step hu
          have hfz := HF.out
          unfold FitsZ at hfz
          have hab : (z.natAbs : Int) ≤ 9223372036854775808 := by omega
          have w1 : IntKind.i64.wrap (2 * s) = 2 * s := IntWalk.i64_in _ (by omega)
          have w2 : IntKind.i64.wrap (2 * s - u) = 2 * s - u := IntWalk.i64_in _ (by omega)
          have HD := Lib.hid d1
          clear d1 d2 d3 d4 d5 hfz hab hdv hu hpr hpb
          go_wp2
          go_roundw
          case rel => exact ⟨(k : Int) - 1, 2 * s - u, by omega, by omega, rfl, rfl, HD.out, trivial⟩
          case measure => simp [intOf]
        · have e : i = -1 := by omega
          subst e
          obtain ⟨d1, d2⟩ := int_ends HS.out hdv HF.out
          cases sg
          · have w1 := (d2 rfl).2
            have HE := Lib.hid (d2 rfl).1
            clear d1 d2 hdv
            go_wp2
            go_ret2
            exact int_good HF.out HE.out HBl.out
          · have HE := Lib.hid (d1 rfl)
            clear d1 d2 hdv
            go_wp2
            go_ret2
            exact int_good HF.out HE.out HBl.out

theorem rint_any (z : Int) (v : Value) (w : World) (h : BigV w v z) (hz : z.natAbs < 2 ^ 1000) :
    Calls Tryz.prog 31 #[v] w (IntPost z w) := by
  obtain ⟨a, c, rfl, g⟩ := h.open
  exact rint_main z a c _ w g rfl (Nat.le_trans (bitsN_len 1000 _ hz) (by omega)) _ rfl

end Go.Proofs.YtgeneoamngfomaaGreatDoor

namespace Go.Proofs.YtgeneoamngfomaaGreatDoor
open Go.RowKit

theorem bigv_sign {w : World} {sg : Bool} {v : Value} {z : Int} (h : BigV w (.agg #[.bool sg, v]) z) : sg = decide (z < 0) ∧ SL w v (bitsN z.natAbs) := by
  obtain ⟨s, e, hs⟩ := h
  simp at e
  obtain ⟨e1, e2⟩ := e
  subst e2
  exact ⟨e1, hs⟩
theorem pow_big (k : Nat) (hk : 80 ≤ k) {n : Nat} (hn : n < 1208925819614629174706176) : n < 2 ^ k := by
  have h2 : (2 : Nat) ^ 80 ≤ 2 ^ k := Nat.pow_le_pow_right (by omega) hk
  have h3 : (2 : Nat) ^ 80 = 1208925819614629174706176 := by decide
  rw [h3] at h2
  exact Nat.lt_of_lt_of_le hn h2
end Go.Proofs.YtgeneoamngfomaaGreatDoor

namespace Go.Proofs.YtgeneoamngfomaaGreatDoor
open Go.RowKit
set_option linter.unusedVariables false

set_option maxHeartbeats 1000000 in
theorem trim_at (l : List Int) (a : Option Addr) (cap : Nat) (w : World) (h : SLF w a l) (hb : IsBits l) (hc : l.length ≤ cap) (hcap : cap ≤ 9223372036854775807) (hn : l.length ≤ 1152921504606846976) :
    Calls Tryz.prog 106 #[.slice a l.length cap] w fun e w' => (∃ k, e = .returned (.slice a k cap) ∧ SL w (.slice a k cap) (bitsN (val l))) ∧ w' = w := by
  have HSL : Hid _ := h
  have HB : Hid _ := hb
  clear h hb
  go_enter Tryz.func106, Tryz.ntmps106
  go_wp2
  go_loop [3] (fun vn => ∃ n : Nat, vn = .int .i64 n ∧ TrimK l n) (fun vn => (intOf vn).toNat)
  case atStart => exact ⟨l.length, rfl, Nat.le_refl _, fun t h1 h2 => by omega⟩
  case round =>
    obtain ⟨n, rfl, hk⟩ := hrel
    have hnl : n ≤ l.length := hk.1
    by_cases c : 0 < n
    · obtain ⟨b, o, ha, hbs, hr⟩ := SLF.cell HSL.out (show n - 1 < l.length by omega)
      obtain ⟨x, hx⟩ : ∃ x, x = l.getD (n - 1) 0 := ⟨_, rfl⟩
      have hcx : w.cell? ⟨b, o + (n - 1), none⟩ = some (.int .i64 x) := by rw [hx]; exact hr (n - 1) (by omega)
      have HX := Lib.hid hx
      have HA := Lib.hid ha
      subst ha
      clear hx hr
      by_cases hz : x = 0
      · have hzb : (x == 0) = true := by simpa using hz
        have HZ := Lib.hid hz
        clear hz
        go_wp2
        go_round
        case rel =>
          refine ⟨n - 1, by go_num, by omega, fun t h1 h2 => ?_⟩
          by_cases e : t = n - 1
          · rw [e, ← HX.out]; exact HZ.out
          · exact hk.2 t (by omega) h2
        case measure => simp [intOf]; omega
      · have hzb : (x == 0) = false := by simpa using hz
        have HZ := Lib.hid hz
        clear hz
        go_wp2
        go_ret
        have he := trim_eq HB.out hnl hk.2 (Or.inr (by rw [← HX.out]; exact HZ.out))
        exact ⟨⟨_, rfl, SL.of_take HSL.out hnl hc hcap he⟩, rfl⟩
    · obtain rfl : n = 0 := by omega
      have he := trim_eq HB.out hnl hk.2 (Or.inl rfl)
      have HE := Lib.hid he
      clear he
      go_wp2
      go_ret
      exact ⟨⟨_, rfl, SL.of_take HSL.out hnl hc hcap HE.out⟩, rfl⟩


/-- Where a slice of the call's own lies. -/
theorem own_loc {w : World} {base : Nat} {v : Value} {l : List Int} (h : Own w base v l) {a : Option Addr} {n c : Nat} (hv : v = .slice a n c) : ∀ ad, a = some ad → base ≤ ad.block := by
  intro ad had
  subst had
  rcases h.reads with ⟨e, _⟩ | ⟨g, cap, e, hb, _⟩
  · rw [hv] at e; cases e
  · rw [hv] at e; cases e; exact hb

/-- What minus leaves, and where. -/
def MinusAt (x : Nat) (w : World) (e : Ending) (w' : World) : Prop := ∃ a n c, e = .returned (.slice a n c) ∧ SL w' (.slice a n c) (bitsN x) ∧ Below w.heap.size w w' ∧ ∀ ad, a = some ad → w.heap.size ≤ ad.block

set_option maxHeartbeats 2000000 in
set_option maxRecDepth 100000 in
theorem minus_at (a b : List Int) (p p' : Option Addr) (c c' : Nat) (w : World) (h : SLF w p a) (h' : SLF w p' b) (ha : IsBits a) (hb : IsBits b) (hn : a.length ≤ 100000) (hn' : b.length ≤ 100000) (hab : val b ≤ val a) :
    Calls Tryz.prog 107 #[.slice p a.length c, .slice p' b.length c'] w (MinusAt (val a - val b) w) := by
  have H : Hid _ := h
  have H' : Hid _ := h'
  have HA : Hid _ := ha
  have HB : Hid _ := hb
  have HAB := Lib.hid hab
  obtain ⟨i0, hi0, hz0, hz1, hz2⟩ := info_parts Tryz.infoI
  clear h h' ha hb hab
  go_enter Tryz.func107, Tryz.ntmps107
  go_wp2
  go_loopw [5, 6, 7, 8] (fun v vc vi vn wx => ∃ (i : Nat) (k : Int) (out : List Int), vi = .int .i64 i ∧ vc = .int .i64 k ∧ MinInv a b i k out ∧ Own wx w.heap.size v out ∧ Below w.heap.size w wx) (fun _ _ vi _ _ => a.length - (intOf vi).toNat)
  case atStart => exact ⟨0, 0, [], rfl, rfl, MinInv.start a b, Own.nil _ _, Below.refl _ _⟩
  case round =>
    obtain ⟨i, k, out, rfl, rfl, hinv, hown, hbel⟩ := hrel
    have hk0 : 0 ≤ k := by rcases hinv.c01 with g | g <;> omega
    have hk1 : k ≤ 1 := by rcases hinv.c01 with g | g <;> omega
    have hsz : w.heap.size ≤ wr.heap.size := hbel.size
    have hil : i ≤ a.length := hinv.lim
    by_cases hc : i < a.length
    · obtain ⟨x, hx⟩ : ∃ x, x = a.getD i 0 := ⟨_, rfl⟩
      obtain ⟨y, hy⟩ : ∃ y, y = b.getD i 0 := ⟨_, rfl⟩
      obtain ⟨bb, oo, hpa, hpb, hpr⟩ := (SLF.keep H.out hbel).cell hc
      subst hpa
      have hcx : wr.cell? ⟨bb, oo + i, none⟩ = some (.int .i64 x) := by rw [hx]; exact hpr i hc
      have hbl : SLF wr p' b := SLF.keep H'.out hbel
      have c2 : ∀ nq, Calls Tryz.prog 64 #[.slice p' b.length c', .int .i64 i] (wr.drewN nq) fun e w' => e = .returned (.int .i64 y) ∧ w' = wr.drewN nq := fun nq => by
        rw [hy]; exact at_any b p' c' i (wr.drewN nq) (hbl.keep (drewN_below' wr nq)) (by omega) (by omega)
      have HC2 := Lib.hid c2
      have hx01 : x = 0 ∨ x = 1 := by rw [hx]; exact HA.out i
      have hy01 : y = 0 ∨ y = 1 := by rw [hy]; exact HB.out i
      have x0 : 0 ≤ x := by omega
      have x1 : x ≤ 1 := by omega
      have y0 : 0 ≤ y := by omega
      have y1 : y ≤ 1 := by omega
      have i1 : (i : Int) < (a.length : Int) := by omega
      have w1 : IntKind.i64.wrap (x - y) = x - y := IntWalk.i64_in _ (by omega)
      have w2 : IntKind.i64.wrap (x - y - k) = x - y - k := IntWalk.i64_in _ (by omega)
      have hlen : out.length = i := hinv.len
      have h63 : out.length + 1 ≤ maxLen := by unfold maxLen; omega
      have hby : (out.length + 1) * 8 ≤ 140737488355328 := by omega
      have HX := Lib.hid hx
      have HY := Lib.hid hy
      have HInv := Lib.hid hinv
      have HBel := Lib.hid hbel
      have HLen := Lib.hid hlen
      clear c2 hx hy hx01 hy01 hinv hbel hlen hpr hbl
      go_wp2_with fail
      go_quiet (first | (go_at_call 64; refine Calls.quiet_of_same (HC2.out _)))
      have HOd : Hid (Own (wr.drewN nq) w.heap.size u5 out) := Lib.hid (hown.grown (drewN_below' wr nq))
      have HBd : Hid (Below w.heap.size w (wr.drewN nq)) := Lib.hid (HBel.out.trans ((drewN_below' wr nq).mono hsz))
      have hsz5 : w.heap.size ≤ (wr.drewN nq).heap.size := hsz
      clear w1 w2 hcx HC2 hown HBel hsz
      generalize wr.drewN nq = w5 at *
      have hown5 := HOd.out
      clear HOd
      by_cases hneg : x - y - k < 0
      · go_wp2_with (at_builtin; refine wpList_append_own _ rfl _ _ 83 rfl w.heap.size 3 i0 (.int .i64 0) 1 8 Tryz.underlying83 hi0 hz0 hz1 hz2 rfl (by decide) _ _ _ rfl (hown5.alloc _) ⟨w5.heap.size, 0, none⟩ 1 1 [.int .i64 (x - y - k + 2)] rfl rfl (one_cell w5 _ _) (one_one _) h63 hby (by simp; omega) ?_; intro v' w1 hown' hgrow _)
        have HO := Lib.hid (own_snoc hown')
        have HB2 := Lib.hid (below_append HBd.out hown5 (Nat.le_refl _) hsz5 hgrow)
        clear hown' hgrow hown5
        go_wp2
        go_roundw
        case rel => exact ⟨i + 1, 1, out ++ [(x - y - k + 2)], by go_num, rfl, HInv.out.step HA.out HB.out hc _ _ (by rw [← HX.out, ← HY.out]; omega) (by omega) (by omega), HO.out, HB2.out⟩
        case measure => simp [intOf]; omega
      · go_wp2_with (at_builtin; refine wpList_append_own _ rfl _ _ 83 rfl w.heap.size 3 i0 (.int .i64 0) 1 8 Tryz.underlying83 hi0 hz0 hz1 hz2 rfl (by decide) _ _ _ rfl (hown5.alloc _) ⟨w5.heap.size, 0, none⟩ 1 1 [.int .i64 (x - y - k)] rfl rfl (one_cell w5 _ _) (one_one _) h63 hby (by simp; omega) ?_; intro v' w1 hown' hgrow _)
        have HO := Lib.hid (own_snoc hown')
        have HB2 := Lib.hid (below_append HBd.out hown5 (Nat.le_refl _) hsz5 hgrow)
        clear hown' hgrow hown5
        go_wp2
        go_roundw
        case rel => exact ⟨i + 1, 0, out ++ [(x - y - k)], by go_num, rfl, HInv.out.step HA.out HB.out hc _ _ (by rw [← HX.out, ← HY.out]; omega) (by omega) (by omega), HO.out, HB2.out⟩
        case measure => simp [intOf]; omega
    · obtain rfl : a.length = i := by omega
      have hd := hinv.done HAB.out
      have HD := Lib.hid hd
      have hsl := hown.sl
      have hlen := hinv.len
      obtain ⟨aa, cc, hv, l1, l2, l3⟩ := hsl
      have HLoc := Lib.hid (own_loc hown hv)
      have HT := Lib.hid (trim_at out aa cc wr l3 hd.2 l1 l2 (by omega))
      rw [hd.1] at HT
      have HBel := Lib.hid hbel
      have HV := Lib.hid hv
      subst hv
      clear hinv hown hd hlen hbel l3
      go_wp2_with (go_at_call 106; refine HT.out.mono ?_; rintro e w' ⟨⟨k, rfl, hs⟩, rfl⟩)
      go_ret
      exact ⟨_, _, _, rfl, ‹SL _ _ _›, HBel.out, HLoc.out⟩

end Go.Proofs.YtgeneoamngfomaaGreatDoor

namespace Go.Proofs.YtgeneoamngfomaaGreatDoor
open Go.RowKit
set_option linter.unusedVariables false

/-- What the bits from one on come to. -/
def topV (x : Nat) (i : Int) : Nat := val ((bitsN x).drop (i + 1).toNat)
theorem topV_end (x : Nat) : topV x (-1) = x := by
  unfold topV
  rw [show ((-1 : Int) + 1).toNat = 0 from rfl, List.drop_zero, val_bitsN]
theorem topV_start (x : Nat) (m : Nat) (hm : m = (bitsN x).length) : topV x ((m : Int) - 1) = 0 := by
  unfold topV
  rw [List.drop_eq_nil_of_le (by omega)]; rfl
theorem topV_step (x k : Nat) : topV x ((k : Int) - 1) = ((bitsN x).getD k 0).toNat + 2 * topV x k := by
  unfold topV
  rw [show ((k : Int) - 1 + 1).toNat = k from by omega, show ((k : Int) + 1).toNat = k + 1 from by omega]
  exact val_drop _ _
/-- Which bits the quotient has by now. -/
structure QuoI (x Y : Nat) (i : Int) (ql : List Int) : Prop where
  len : ql.length = (bitsN x).length
  low : ∀ t : Nat, (t : Int) ≤ i → ql.getD t 0 = 0
  bits : IsBits ql
  quo : val (ql.drop (i + 1).toNat) = topV x i / Y
theorem QuoI.start (x Y m : Nat) (hm : m = (bitsN x).length) : QuoI x Y ((m : Int) - 1) (List.replicate m 0) := by
  have hz : ∀ t : Nat, (List.replicate m (0 : Int)).getD t 0 = 0 := fun t => by
    rw [List.getD_eq_getElem?_getD, List.getElem?_replicate]; split <;> rfl
  refine ⟨by simp [hm], fun t _ => hz t, fun t => Or.inl (hz t), ?_⟩
  rw [topV_start x m hm, Nat.zero_div, List.drop_eq_nil_of_le (by rw [List.length_replicate]; omega)]; rfl
theorem getD_set (l : List Int) (k t : Nat) (v : Int) (hk : k < l.length) : (l.set k v).getD t 0 = if t = k then v else l.getD t 0 := by
  rw [List.getD_eq_getElem?_getD, List.getD_eq_getElem?_getD, List.getElem?_set]
  by_cases h : k = t
  · subst h; simp [hk]
  · rw [if_neg h, if_neg (fun e => h e.symm)]
theorem val_ext : ∀ (a b : List Int), (∀ t, a.getD t 0 = b.getD t 0) → val a = val b
  | [], b, h => (val_zero (l := b) (fun t => by have := h t; simp at this; simpa using this.symm)).symm ▸ rfl
  | x :: a, [], h => by
    have := val_zero (l := x :: a) (fun t => by have := h t; simpa using this)
    rw [this]; rfl
  | x :: a, y :: b, h => by
    have h0 : x = y := by have := h 0; simpa using this
    have h1 := val_ext a b (fun t => by have := h (t + 1); simpa using this)
    show x.toNat + 2 * val a = y.toNat + 2 * val b
    rw [h0, h1]
theorem getD_drop (l : List Int) (k t : Nat) : (l.drop k).getD t 0 = l.getD (k + t) 0 := by
  rw [List.getD_eq_getElem?_getD, List.getD_eq_getElem?_getD, List.getElem?_drop]

/-- One bit more, that is nought. -/
theorem QuoI.zero {x Y k : Nat} {ql : List Int} (h : QuoI x Y k ql) (hY : 0 < Y) (hlt : ((bitsN x).getD k 0).toNat + 2 * (topV x k % Y) < Y) : QuoI x Y ((k : Int) - 1) ql ∧ topV x ((k : Int) - 1) % Y = ((bitsN x).getD k 0).toNat + 2 * (topV x k % Y) := by
  have e : topV x ((k : Int) - 1) = (((bitsN x).getD k 0).toNat + 2 * (topV x k % Y)) + Y * (2 * (topV x k / Y)) := by
    rw [topV_step]
    have := Nat.div_add_mod (topV x k) Y
    have e2 : Y * (2 * (topV x k / Y)) = 2 * (Y * (topV x k / Y)) := by rw [Nat.mul_left_comm]
    omega
  refine ⟨⟨h.len, fun t ht => h.low t (by omega), h.bits, ?_⟩, ?_⟩
  · rw [show ((k : Int) - 1 + 1).toNat = k from by omega, val_drop, h.low k (Int.le_refl _), e, Nat.add_mul_div_left _ _ hY, Nat.div_eq_of_lt hlt]
    have := h.quo
    rw [show ((k : Int) + 1).toNat = k + 1 from by omega] at this
    rw [this]; simp
  · rw [e, Nat.add_mul_mod_self_left, Nat.mod_eq_of_lt hlt]
/-- One bit more, that is one. -/
theorem QuoI.one {x Y k : Nat} {ql : List Int} (h : QuoI x Y k ql) (hY : 0 < Y) (hk : k < (bitsN x).length) (hge : Y ≤ ((bitsN x).getD k 0).toNat + 2 * (topV x k % Y)) : QuoI x Y ((k : Int) - 1) (ql.set k 1) ∧ topV x ((k : Int) - 1) % Y = ((bitsN x).getD k 0).toNat + 2 * (topV x k % Y) - Y := by
  have hb : (bitsN x).getD k 0 = 0 ∨ (bitsN x).getD k 0 = 1 := bits_of_bitsN x k
  have hm : topV x k % Y < Y := Nat.mod_lt _ hY
  have hlt : ((bitsN x).getD k 0).toNat + 2 * (topV x k % Y) - Y < Y := by omega
  have e : topV x ((k : Int) - 1) = (((bitsN x).getD k 0).toNat + 2 * (topV x k % Y) - Y) + Y * (2 * (topV x k / Y) + 1) := by
    rw [topV_step]
    have := Nat.div_add_mod (topV x k) Y
    have e2 : Y * (2 * (topV x k / Y) + 1) = 2 * (Y * (topV x k / Y)) + Y := by rw [Nat.mul_add, Nat.mul_left_comm, Nat.mul_one]
    omega
  have hkq : k < ql.length := by rw [h.len]; exact hk
  refine ⟨⟨by rw [List.length_set]; exact h.len, fun t ht => ?_, fun t => ?_, ?_⟩, ?_⟩
  · rw [getD_set _ _ _ _ hkq, if_neg (by omega)]; exact h.low t (by omega)
  · rw [getD_set _ _ _ _ hkq]; split
    · exact Or.inr rfl
    · exact h.bits t
  · have hq := h.quo
    rw [show ((k : Int) + 1).toNat = k + 1 from by omega] at hq
    rw [show ((k : Int) - 1 + 1).toNat = k from by omega, val_drop, getD_set _ _ _ _ hkq, if_pos rfl, e, Nat.add_mul_div_left _ _ hY, Nat.div_eq_of_lt hlt]
    have e3 : val ((ql.set k 1).drop (k + 1)) = val (ql.drop (k + 1)) := val_ext _ _ (fun t => by
      rw [getD_drop, getD_drop, getD_set _ _ _ _ hkq, if_neg (by omega)])
    rw [e3, hq]
    show 1 + 2 * (topV x k / Y) = 0 + (2 * (topV x k / Y) + 1)
    omega
  · rw [e, Nat.add_mul_mod_self_left, Nat.mod_eq_of_lt hlt]
theorem QuoI.done {x Y : Nat} {ql : List Int} (h : QuoI x Y (-1) ql) : val ql = x / Y ∧ topV x (-1) % Y = x % Y := by
  have := h.quo
  rw [show ((-1 : Int) + 1).toNat = 0 from rfl, List.drop_zero, topV_end] at this
  exact ⟨this, by rw [topV_end]⟩

end Go.Proofs.YtgeneoamngfomaaGreatDoor

namespace Go.Proofs.YtgeneoamngfomaaGreatDoor
open Go.RowKit
set_option linter.unusedVariables false

/-- The cells that Parts keeps. -/
structure PartsW (w wx : World) (a : Option Addr) (n c : Nat) (b : Option Addr) (m d : Nat) (ql : List Int) : Prop where
  a1 : wx.cell? ⟨w.heap.size, 1, none⟩ = some (.slice a n c)
  b1 : wx.cell? ⟨w.heap.size + 1, 1, none⟩ = some (.slice b m d)
  r0 : wx.cell? ⟨w.heap.size + 1 + 1, 0, none⟩ = some (.bool false)
  r1 : wx.cell? ⟨w.heap.size + 1 + 1, 1, none⟩ = some (.slice none 0 0)
  f0 : wx.frozen? ⟨w.heap.size + 1 + 1, 0, none⟩ = false
  f1 : wx.frozen? ⟨w.heap.size + 1 + 1, 1, none⟩ = false
  s0 : wx.cell? ⟨w.heap.size + 1 + 1 + 1, 0, none⟩ = some (.bool false)
  s1 : wx.cell? ⟨w.heap.size + 1 + 1 + 1, 1, none⟩ = some (.slice none 0 0)
  g0 : wx.frozen? ⟨w.heap.size + 1 + 1 + 1, 0, none⟩ = false
  g1 : wx.frozen? ⟨w.heap.size + 1 + 1 + 1, 1, none⟩ = false
  qr : Row wx (w.heap.size + 1 + 1 + 1 + 1) 0 ql
  qf : ∀ t, wx.frozen? ⟨w.heap.size + 1 + 1 + 1 + 1, t, none⟩ = false
  bel : Below w.heap.size w wx
  sz : w.heap.size + 5 ≤ wx.heap.size
theorem PartsW.keep {w wx w1 : World} {a : Option Addr} {n c : Nat} {b : Option Addr} {m d : Nat} {ql : List Int} (h : PartsW w wx a n c b m d ql) (hb : Below wx.heap.size wx w1) : PartsW w w1 a n c b m d ql := by
  have hs := h.sz
  have hs1 := hb.size
  have hc : ∀ b i, b < w.heap.size + 5 → w1.cell? ⟨b, i, none⟩ = wx.cell? ⟨b, i, none⟩ := fun b i hb' => hb.cell (p := ⟨b, i, none⟩) (show b < wx.heap.size by omega)
  have hf : ∀ b i, b < w.heap.size + 5 → w1.frozen? ⟨b, i, none⟩ = wx.frozen? ⟨b, i, none⟩ := fun b i hb' => hb.frozen (p := ⟨b, i, none⟩) (show b < wx.heap.size by omega)
  exact ⟨(hc _ _ (by omega)).trans h.a1, (hc _ _ (by omega)).trans h.b1, (hc _ _ (by omega)).trans h.r0, (hc _ _ (by omega)).trans h.r1, (hf _ _ (by omega)).trans h.f0, (hf _ _ (by omega)).trans h.f1,
    (hc _ _ (by omega)).trans h.s0, (hc _ _ (by omega)).trans h.s1, (hf _ _ (by omega)).trans h.g0, (hf _ _ (by omega)).trans h.g1, fun t ht => (hc _ _ (by omega)).trans (h.qr t ht), fun t => (hf _ _ (by omega)).trans (h.qf t), h.bel.trans (hb.mono (by omega)), by omega⟩
theorem PartsW.store {w wx : World} {a : Option Addr} {n c : Nat} {b : Option Addr} {m d : Nat} {ql : List Int} (h : PartsW w wx a n c b m d ql) {k : Nat} (hk : k < ql.length) (v : Int) : PartsW w (wx.setCell ⟨w.heap.size + 1 + 1 + 1 + 1, k, none⟩ (.int .i64 v)) a n c b m d (ql.set k v) := by
  have ne : ∀ (b i : Nat), b < w.heap.size + 4 → (wx.setCell ⟨w.heap.size + 1 + 1 + 1 + 1, k, none⟩ (.int .i64 v)).cell? ⟨b, i, none⟩ = wx.cell? ⟨b, i, none⟩ := fun b i hb => cell_other (by intro e; injection e with e; omega)
  refine ⟨(ne _ _ (by omega)).trans h.a1, (ne _ _ (by omega)).trans h.b1, (ne _ _ (by omega)).trans h.r0, (ne _ _ (by omega)).trans h.r1, by simpa using h.f0, by simpa using h.f1, (ne _ _ (by omega)).trans h.s0, (ne _ _ (by omega)).trans h.s1, by simpa using h.g0, by simpa using h.g1, fun t ht => ?_, fun t => by simpa using h.qf t, Below.setCell h.bel (show w.heap.size ≤ w.heap.size + 1 + 1 + 1 + 1 by omega) _, by simpa using h.sz⟩
  rw [List.length_set] at ht
  rw [getD_set _ _ _ _ hk, Nat.zero_add]
  have h1 := h.qr t ht
  rw [Nat.zero_add] at h1
  by_cases e : t = k
  · subst e; rw [if_pos rfl]; exact cell_same h1
  · rw [if_neg e, cell_other (by intro g; injection g with _ g; exact e g.symm)]; exact h1
theorem PartsW.start (w : World) (s : Bool) (a : Option Addr) (n c : Nat) (s' : Bool) (b : Option Addr) (m d : Nat) (e : TypeId) (x : Nat) :
    PartsW w (((((w.alloc (.cells #[.bool s, .slice a n c] e)).alloc (.cells #[.bool s', .slice b m d] e)).alloc (.cells #[.bool false, .slice none 0 0] e)).alloc (.cells #[.bool false, .slice none 0 0] e)).alloc (.cells (madeCells #[.int .i64 0] x) 3)) a n c b m d (List.replicate x 0) := by
  obtain ⟨w1, h1⟩ : ∃ w1, w1 = w.alloc (.cells #[.bool s, .slice a n c] e) := ⟨_, rfl⟩
  obtain ⟨w2, h2⟩ : ∃ w2, w2 = w1.alloc (.cells #[.bool s', .slice b m d] e) := ⟨_, rfl⟩
  obtain ⟨w3, h3⟩ : ∃ w3, w3 = w2.alloc (.cells #[.bool false, .slice none 0 0] e) := ⟨_, rfl⟩
  obtain ⟨w4, h4⟩ : ∃ w4, w4 = w3.alloc (.cells #[.bool false, .slice none 0 0] e) := ⟨_, rfl⟩
  obtain ⟨w5, h5⟩ : ∃ w5, w5 = w4.alloc (.cells (madeCells #[.int .i64 0] x) 3) := ⟨_, rfl⟩
  rw [← h1, ← h2, ← h3, ← h4, ← h5]
  have z1 : w1.heap.size = w.heap.size + 1 := by rw [h1]; simp
  have z2 : w2.heap.size = w.heap.size + 1 + 1 := by rw [h2]; simp [z1]
  have z3 : w3.heap.size = w.heap.size + 1 + 1 + 1 := by rw [h3]; simp [z2]
  have z4 : w4.heap.size = w.heap.size + 1 + 1 + 1 + 1 := by rw [h4]; simp [z3]
  have z5 : w5.heap.size = w.heap.size + 1 + 1 + 1 + 1 + 1 := by rw [h5]; simp [z4]
  have b5 : Below w4.heap.size w4 w5 := by rw [h5]; exact Below.alloc (Below.refl _ _) (Nat.le_refl _) _
  have b4 : Below w3.heap.size w3 w5 := Below.trans (by rw [h4]; exact Below.alloc (Below.refl _ _) (Nat.le_refl _) _) (b5.mono (by omega))
  have b3 : Below w2.heap.size w2 w5 := Below.trans (by rw [h3]; exact Below.alloc (Below.refl _ _) (Nat.le_refl _) _) (b4.mono (by omega))
  have b2 : Below w1.heap.size w1 w5 := Below.trans (by rw [h2]; exact Below.alloc (Below.refl _ _) (Nat.le_refl _) _) (b3.mono (by omega))
  have b1 : Below w.heap.size w w5 := Below.trans (by rw [h1]; exact Below.alloc (Below.refl _ _) (Nat.le_refl _) _) (b2.mono (by omega))
  have c1 : ∀ i v, #[Value.bool s, Value.slice a n c][i]? = some v → w5.cell? ⟨w.heap.size, i, none⟩ = some v := fun i v hv => by
    rw [b2.cell (p := ⟨w.heap.size, i, none⟩) (by show w.heap.size < _; omega), h1]; exact new_at hv
  have c2 : ∀ i v, #[Value.bool s', Value.slice b m d][i]? = some v → w5.cell? ⟨w.heap.size + 1, i, none⟩ = some v := fun i v hv => by
    rw [b3.cell (p := ⟨w.heap.size + 1, i, none⟩) (by show w.heap.size + 1 < _; omega), h2, ← z1]; exact new_at hv
  have c3 : ∀ i v, #[Value.bool false, Value.slice none 0 0][i]? = some v → w5.cell? ⟨w.heap.size + 1 + 1, i, none⟩ = some v := fun i v hv => by
    rw [b4.cell (p := ⟨w.heap.size + 1 + 1, i, none⟩) (by show w.heap.size + 1 + 1 < _; omega), h3, ← z2]; exact new_at hv
  have c4 : ∀ i v, #[Value.bool false, Value.slice none 0 0][i]? = some v → w5.cell? ⟨w.heap.size + 1 + 1 + 1, i, none⟩ = some v := fun i v hv => by
    rw [b5.cell (p := ⟨w.heap.size + 1 + 1 + 1, i, none⟩) (by show w.heap.size + 1 + 1 + 1 < _; omega), h4, ← z3]; exact new_at hv
  have f3 : ∀ i, w5.frozen? ⟨w.heap.size + 1 + 1, i, none⟩ = false := fun i => by
    rw [b4.frozen (p := ⟨w.heap.size + 1 + 1, i, none⟩) (by show w.heap.size + 1 + 1 < _; omega), h3]; exact World.frozen?_alloc_at _ _ _ _ z2.symm
  have f4 : ∀ i, w5.frozen? ⟨w.heap.size + 1 + 1 + 1, i, none⟩ = false := fun i => by
    rw [b5.frozen (p := ⟨w.heap.size + 1 + 1 + 1, i, none⟩) (by show w.heap.size + 1 + 1 + 1 < _; omega), h4]; exact World.frozen?_alloc_at _ _ _ _ z3.symm
  refine ⟨c1 1 _ rfl, c2 1 _ rfl, c3 0 _ rfl, c3 1 _ rfl, f3 0, f3 1, c4 0 _ rfl, c4 1 _ rfl, f4 0, f4 1, fun t ht => ?_, fun t => ?_, b1, by omega⟩
  · rw [List.length_replicate] at ht
    rw [h5, ← z4, made_at w4 x _ _ t ht]
    rw [List.getD_eq_getElem?_getD, List.getElem?_replicate, if_pos ht]; rfl
  · rw [h5]; exact World.frozen?_alloc_at _ _ _ _ z4.symm

end Go.Proofs.YtgeneoamngfomaaGreatDoor

namespace Go.Proofs.YtgeneoamngfomaaGreatDoor
open Go.RowKit
set_option linter.unusedVariables false

theorem own_lit1 (w : World) (u : Int) : Own (w.alloc (.cells #[.int .i64 u] 3)) w.heap.size (.slice (some ⟨w.heap.size, 0, none⟩) 1 1) [u] := by
  have h := World.ownsRow_lit (base := w.heap.size) (e := 3) (size := 1) w #[.int .i64 u] 1 (Nat.le_refl _) (by unfold maxLen; omega) rfl
  exact h
theorem own_cons {w' : World} {base : Nat} {v' : Value} {l : List Int} {u : Int} {n : Nat} (h : w'.ownsRow base 3 1 v' ([u].length + n) ([u].map (Value.int .i64) ++ l.map (Value.int .i64))) (hn : n = l.length) : Own w' base v' (u :: l) := by
  unfold Own
  subst hn
  rw [show (u :: l).length = [u].length + l.length from by simp; omega]
  exact h

theorem cons_len (u : Int) {n : Nat} {l : List Int} (h : n = l.length) : (u :: l).length = 1 + n := by rw [h]; simp; omega

theorem len_next {R Y m : Nat} {u : Int} (hRY : R < Y) (hm : m = (bitsN Y).length) (hu : u = 0 ∨ u = 1) : (bitsN (u.toNat + 2 * R)).length ≤ m + 1 := by
  have h1 := bitsN_lt (n := Y) (k := m) (by omega)
  apply bitsN_len
  rw [Nat.pow_succ]
  omega

/-- The call of trim in a round. -/
theorem parts_trim {w1 : World} {base : Nat} {va : Option Addr} {vc n : Nat} {u : Int} {R : Nat} (ho : Own w1 base (.slice va (1 + n) vc) (u :: bitsN R)) (hn : n = (bitsN R).length) (hu : u = 0 ∨ u = 1) (hn1 : n ≤ 100000) :
    Calls Tryz.prog 106 #[.slice va (1 + n) vc] w1 fun e w' => (∃ k, e = .returned (.slice va k vc) ∧ SL w1 (.slice va k vc) (bitsN (u.toNat + 2 * R))) ∧ w' = w1 := by
  obtain ⟨a1, c1, e1, h1, h2, h3⟩ := ho.sl
  have hl : (u :: bitsN R).length = 1 + n := by rw [hn]; simp; omega
  injection e1 with e1 _ e3
  subst e1; subst e3
  have := trim_at (u :: bitsN R) va vc w1 h3 (IsBits.cons hu (bits_of_bitsN R)) h1 h2 (by omega)
  rw [hl, show val (u :: bitsN R) = u.toNat + 2 * R from by show u.toNat + 2 * val (bitsN R) = _; rw [val_bitsN]] at this
  exact this

/-- Where a slice lies. -/
def LocR (B : Nat) (a : Option Addr) : Prop := ∀ ad, a = some ad → B ≤ ad.block
theorem LocR.none (B : Nat) : LocR B none := by intro ad e; cases e
theorem LocR.of_own {w : World} {base B : Nat} {a : Option Addr} {n c : Nat} {l : List Int} (h : Own w base (.slice a n c) l) (hB : B ≤ base) : LocR B a := fun ad e => Nat.le_trans hB (own_loc h rfl ad e)
theorem SL.setFar {w : World} {a : Option Addr} {n c : Nat} {l : List Int} {B : Nat} (h : SL w (.slice a n c) l) (hl : LocR B a) {p : Addr} (hp : p.block < B) (v : Value) : SL (w.setCell p v) (.slice a n c) l := by
  obtain ⟨a', c', e, h1, h2, h3⟩ := h
  injection e with e1 e2 e3
  subst e1; subst e3
  refine ⟨a, c, by rw [e2], h1, h2, ?_⟩
  rcases h3 with h3 | ⟨b, o, rfl, h4, h5⟩
  · exact Or.inl h3
  · refine Or.inr ⟨b, o, rfl, by simpa using h4, fun t ht => ?_⟩
    have := hl _ rfl
    rw [cell_other (fun e => by rw [e] at hp; exact absurd hp (Nat.not_lt.2 this))]
    exact h5 t ht
theorem SL.len {w : World} {a : Option Addr} {n c : Nat} {l : List Int} (h : SL w (.slice a n c) l) : n = l.length ∧ SLF w a l := by
  obtain ⟨a', c', e, h1, h2, h3⟩ := h
  injection e with e1 e2 e3
  subst e1
  exact ⟨e2, h3⟩
theorem parts_ord {w1 : World} {va b : Option Addr} {k1 vc m d R Y : Nat} (hs : SL w1 (.slice va k1 vc) (bitsN R)) (hb : SLF w1 b (bitsN Y)) (hm : m = (bitsN Y).length) (lm : m ≤ 1000) (lk : k1 ≤ 100000) :
    Calls Tryz.prog 62 #[.slice va k1 vc, .slice b m d] w1 fun e w' => e = .returned (.int .i64 (ordZ R Y)) ∧ ∃ q, w' = w1.drewN q := by
  obtain ⟨h1, h2⟩ := hs.len
  subst h1; subst hm
  exact ord_any R Y va b vc d w1 h2 hb (by omega) (by omega)
theorem parts_minus {w1 : World} {va b : Option Addr} {k1 vc m d R Y : Nat} (hs : SL w1 (.slice va k1 vc) (bitsN R)) (hb : SLF w1 b (bitsN Y)) (hm : m = (bitsN Y).length) (lm : m ≤ 1000) (lk : k1 ≤ 100000) (hge : Y ≤ R) :
    Calls Tryz.prog 107 #[.slice va k1 vc, .slice b m d] w1 (MinusAt (R - Y) w1) := by
  obtain ⟨h1, h2⟩ := hs.len
  subst h1; subst hm
  have := minus_at (bitsN R) (bitsN Y) va b vc d w1 h2 hb (bits_of_bitsN _) (bits_of_bitsN _) (by omega) (by omega) (by rw [val_bitsN, val_bitsN]; exact hge)
  rw [val_bitsN, val_bitsN] at this
  exact this

theorem two_stored {w : World} {H : Nat} {a : Option Addr} {n c : Nat} {b : Option Addr} {m d : Nat} {ql : List Int} {w0 : World} (hp : PartsW w0 w a n c b m d ql) (hH : H = w0.heap.size) {v : Value} {l : List Int} (h : SL w v l) (x0 x1 x2 x3 : Value) :
    SL ((((w.setCell ⟨H + 1 + 1, 0, none⟩ x0).setCell ⟨H + 1 + 1, 1, none⟩ x1).setCell ⟨H + 1 + 1 + 1, 0, none⟩ x2).setCell ⟨H + 1 + 1 + 1, 1, none⟩ x3) v l := by
  subst hH
  refine (((h.setCell hp.r0 (by intro n; simp) _).setCell (u := .slice none 0 0) ?_ (by intro n; simp) _).setCell (u := .bool false) ?_ (by intro n; simp) _).setCell (u := .slice none 0 0) ?_ (by intro n; simp) _
  · rw [cell_other (by intro e; simp at e)]; exact hp.r1
  · rw [cell_other (by intro e; simp at e), cell_other (by intro e; simp at e)]; exact hp.s0
  · rw [cell_other (by intro e; simp at e), cell_other (by intro e; simp at e), cell_other (by intro e; simp at e)]; exact hp.s1
theorem big_nat {w : World} {v : Value} {x : Nat} (h : SL w v (bitsN x)) : BigV w (.agg #[.bool false, v]) (x : Int) :=
  ⟨v, by rw [show decide ((x : Int) < 0) = false from decide_eq_false (by omega)], by rw [Int.natAbs_natCast]; exact h⟩

/-- What Parts leaves. -/
def PartsPost (x y : Nat) (w : World) (e : Ending) (w' : World) : Prop := ∃ v v', e = .returned (.tuple #[v, v']) ∧ BigV w' v ((x / y : Nat) : Int) ∧ BigV w' v' ((x % y : Nat) : Int) ∧ Below w.heap.size w w'
/-- The same, and where what is left lies. -/
def PartsPostL (x y : Nat) (w : World) (e : Ending) (w' : World) : Prop := ∃ v v', e = .returned (.tuple #[v, v']) ∧ BigV w' v ((x / y : Nat) : Int) ∧ BigV w' v' ((x % y : Nat) : Int) ∧ Below w.heap.size w w' ∧ ∃ a n c, v' = .agg #[.bool false, .slice a n c] ∧ LocR w.heap.size a

set_option maxHeartbeats 4000000 in
set_option maxRecDepth 100000 in
theorem parts_mainL (X Y : Nat) (a b : Option Addr) (c d n m : Nat) (w : World) (h : SLF w a (bitsN X)) (h' : SLF w b (bitsN Y)) (hn : n = (bitsN X).length) (hm : m = (bitsN Y).length) (hY : 0 < Y) (ln : n ≤ 1000) (lm : m ≤ 1000) (sg sg' : Bool) :
    Calls Tryz.prog 61 #[.agg #[.bool sg, .slice a n c], .agg #[.bool sg', .slice b m d]] w (PartsPostL X Y w) := by
  have HX := Lib.hid h
  have HY := Lib.hid h'
  have HN := Lib.hid hn
  have HM := Lib.hid hm
  have HPos := Lib.hid hY
  obtain ⟨i0, hi0, hz0, hz1, hz2⟩ := info_parts Tryz.infoI
  have hmk := fun (w : World) => run_make_row' (P := Tryz.prog) 83 3 (.int .i64 0) 8 Tryz.underlying83 Tryz.infoI rfl .i64 .i64 n (by omega) (by omega) w
  clear h h' hn hm hY
  go_enter Tryz.func61, Tryz.ntmps61
  go_wp2
  go_loopw [7, 8] (fun vr vi wx => ∃ (i : Int) (ql : List Int) (ra : Option Addr) (rn rc : Nat), -1 ≤ i ∧ i < n ∧ vi = .int .i64 i ∧ vr = .slice ra rn rc ∧ SL wx (.slice ra rn rc) (bitsN (topV X i % Y)) ∧ LocR (w.heap.size + 5) ra ∧ QuoI X Y i ql ∧ PartsW w wx a n c b m d ql) (fun _ vi _ => (intOf vi + 1).toNat)
  case atStart =>
    refine ⟨(n : Int) - 1, _, none, 0, 0, by omega, by omega, by go_num, rfl, ?_, LocR.none _, QuoI.start X Y n HN.out, PartsW.start w sg a n c sg' b m d _ n⟩
    rw [topV_start X n HN.out, Nat.zero_mod, bitsN_zero]
    exact ⟨none, 0, rfl, by simp, by omega, Or.inl rfl⟩
  case round =>
    obtain ⟨i, ql, ra, rn, rc, hi0', hi1, rfl, rfl, hsl, hloc, hquo, hpw⟩ := hrel
    obtain ⟨a1, b1, r0, r1, f0, f1, s0, s1, g0, g1, qr, qf, hbel, hsz⟩ := id hpw
    by_cases c1 : 0 ≤ i
    · obtain ⟨k, rfl⟩ := Int.eq_ofNat_of_zero_le c1
      obtain ⟨bb, oo, hpa, hpb, hpr⟩ := (SLF.keep HX.out hbel).cell (t := k) (by have := HN.out; omega)
      obtain ⟨u, hu⟩ : ∃ u, u = (bitsN X).getD k 0 := ⟨_, rfl⟩
      have hcx : wr.cell? ⟨bb, oo + k, none⟩ = some (.int .i64 u) := by rw [hu]; exact hpr k (by have := HN.out; omega)
      have hu01 : u = 0 ∨ u = 1 := by rw [hu]; exact bits_of_bitsN X k
      subst hpa
      obtain ⟨R, hR⟩ : ∃ R, R = topV X k % Y := ⟨_, rfl⟩
      have hRY : R < Y := by rw [hR]; exact Nat.mod_lt _ HPos.out
      rw [← hR] at hsl
      obtain ⟨hrn, hrf⟩ := hsl.len
      have hrm : rn ≤ m := by rw [hrn]; exact bitsN_len m R (Nat.lt_of_lt_of_le (Nat.lt_trans hRY (bitsN_lt (n := Y) (k := m) (by have := HM.out; omega))) (Nat.le_refl _))
      have HLen : Hid ((bitsN (u.toNat + 2 * R)).length ≤ 100000) := Lib.hid (Nat.le_trans (len_next hRY HM.out hu01) (by omega))
      have HR := Lib.hid hR
      have HU := Lib.hid hu
      have HQuo := Lib.hid hquo
      have HRn := Lib.hid hrn
      have HRf := Lib.hid (hrf.keep (Below.alloc (Below.refl _ wr) (Nat.le_refl _) (.cells #[.int .i64 u] 3)))
      have HPW := Lib.hid hpw
      have HU01 := Lib.hid hu01
      have HLit := Lib.hid (own_lit1 wr u)
      have i1 : (k : Int) < (n : Int) := by omega
      clear hR hu hquo hrn hrf hsl hloc hpw hbel hu01 hpr hpb hRY qr qf
      rcases ra with _ | ad
      · have hx0 : bitsN R = [] := by
          rcases HRf.out with g | ⟨_, _, g, _⟩
          · exact g
          · cases g
        obtain rfl : rn = 0 := by rw [HRn.out, hx0]; rfl
        have HT := Lib.hid (parts_trim (n := 0) (u := u) (R := R) (by rw [hx0]; exact HLit.out) (by rw [hx0]; rfl) HU01.out (by omega))
        have HPW1 := Lib.hid (HPW.out.keep (Below.alloc (Below.refl _ wr) (Nat.le_refl _) (.cells #[.int .i64 u] 3)))
        have HLoc : Hid (LocR (w.heap.size + 5) (some ⟨wr.heap.size, 0, none⟩)) := Lib.hid (LocR.of_own HLit.out hsz)
        clear hx0
        go_wp2_with (at_builtin; refine wpList_append_none_any rfl _ _ 83 rfl wr.heap.size 3 i0 1 Tryz.underlying83 hi0 _ _ rc _ rfl HLit.out rfl ?_)
        refine HT.out.mono ?_
        rintro e w' ⟨⟨k1, rfl, hs1⟩, rfl⟩
        have hk1 : k1 ≤ 100000 := by have := hs1.len.1; have := HLen.out; omega
        have HS1 := Lib.hid hs1
        have HO := Lib.hid (parts_ord (d := d) hs1 (HY.out.keep HPW1.out.bel) HM.out lm hk1)
        have HMi := Lib.hid (fun q (hge : Y ≤ u.toNat + 2 * R) => parts_minus (d := d) (hs1.keep (drewN_below' _ q)) ((HY.out.keep HPW1.out.bel).keep (drewN_below' _ q)) HM.out lm hk1 hge)
        obtain ⟨a1, b1, r0, r1, f0, f1, s0, s1, g0, g1, qr, qf, hbel, hsz⟩ := id HPW1.out
        clear hs1 hbel
        by_cases hlt : u.toNat + 2 * R < Y
        · have ho : ordZ (u.toNat + 2 * R) Y = -1 := by unfold ordZ; rw [if_pos hlt]
          rw [ho] at HO
          have HQ := Lib.hid (HQuo.out.zero HPos.out (by rw [← HU.out, ← HR.out]; exact hlt))
          clear hlt ho
          go_wp2_with fail
          refine HO.out.mono ?_
          rintro e w2 ⟨rfl, q, rfl⟩
          go_wp2
          go_roundw
          case rel => exact ⟨(k : Int) - 1, ql, _, k1, _, by omega, by omega, rfl, rfl, by rw [HQ.out.2, ← HU.out, ← HR.out]; exact HS1.out.keep (drewN_below' _ q), HLoc.out, HQ.out.1, HPW1.out.keep (drewN_below' _ q)⟩
          case measure => simp [intOf]
        · obtain ⟨o, ho, o0⟩ : ∃ o, ordZ (u.toNat + 2 * R) Y = o ∧ 0 ≤ o := ⟨_, rfl, by unfold ordZ; rw [if_neg hlt]; split <;> omega⟩
          rw [ho] at HO
          have HQ := Lib.hid (HQuo.out.one HPos.out (by have := HN.out; omega) (by rw [← HU.out, ← HR.out]; omega))
          have HG : Hid (Y ≤ u.toNat + 2 * R) := Lib.hid (by omega)
          clear hlt ho
          go_wp2_with fail
          refine HO.out.mono ?_
          rintro e w2 ⟨rfl, q, rfl⟩
          go_wp2_with fail
          refine (HMi.out q HG.out).mono ?_
          rintro e w3 ⟨a2, n2, c2, rfl, hs2, hb2, hloc2⟩
          have HPW2 := Lib.hid (HPW1.out.keep (Below.trans (drewN_below' _ q) hb2))
          obtain ⟨a1, b1, r0, r1, f0, f1, s0, s1, g0, g1, qr, qf, hbel, hsz⟩ := id HPW2.out
          have hkq : k < ql.length := by rw [HQuo.out.len, ← HN.out]; omega
          have hq0 := qr k hkq
          rw [Nat.zero_add] at hq0
          have hqf := qf k
          have HS2 := Lib.hid (hs2.setFar (B := w.heap.size + 5) (fun ad e => Nat.le_trans HPW1.out.sz (hloc2 ad e)) (p := ⟨w.heap.size + 1 + 1 + 1 + 1, k, none⟩) (by show w.heap.size + 1 + 1 + 1 + 1 < _; omega) (.int .i64 1))
          have HL2 : Hid (LocR (w.heap.size + 5) a2) := Lib.hid (fun ad e => Nat.le_trans HPW1.out.sz (hloc2 ad e))
          have HP3 := Lib.hid (HPW2.out.store hkq 1)
          clear hs2 hb2 hloc2 hbel qr qf
          go_wp2
          go_roundw
          case rel => exact ⟨(k : Int) - 1, _, a2, n2, c2, by omega, by omega, rfl, rfl, by rw [HQ.out.2, ← HU.out, ← HR.out]; exact HS2.out, HL2.out, HQ.out.1, HP3.out⟩
          case measure => simp [intOf]
      · have HNews := Lib.hid (slf_news HRf.out)
        have h63 : [u].length + rn ≤ maxLen := by unfold maxLen; simp; omega
        have hby : ([u].length + rn) * 8 ≤ 140737488355328 := by simp; omega
        go_wp2_with (at_builtin; refine wpList_append_own _ rfl _ _ 83 rfl wr.heap.size 3 i0 (.int .i64 0) 1 8 Tryz.underlying83 hi0 hz0 hz1 hz2 rfl (by decide) _ _ _ rfl HLit.out ad rn rc ((bitsN R).map (Value.int .i64)) rfl (by simp; exact HRn.out.symm) HNews.out (news_one _) h63 hby (by simp) ?_; intro v' w1 hown' hgrow _; have HPW1 := Lib.hid (HPW.out.keep (below_app hgrow)); have ho1 := own_cons hown' HRn.out; obtain ⟨va', vc', hve', _, _, _⟩ := ho1.sl; have hl1 := cons_len u HRn.out; rw [hl1] at hve'; subst hve'; have HT := Lib.hid (parts_trim ho1 HRn.out HU01.out (by omega)); have HLoc := Lib.hid (LocR.of_own ho1 hsz); clear hown' hgrow ho1 hl1)
        refine HT.out.mono ?_
        rintro e w' ⟨⟨k1, rfl, hs1⟩, rfl⟩
        have hk1 : k1 ≤ 100000 := by have := hs1.len.1; have := HLen.out; omega
        have HS1 := Lib.hid hs1
        have HO := Lib.hid (parts_ord (d := d) hs1 (HY.out.keep HPW1.out.bel) HM.out lm hk1)
        have HMi := Lib.hid (fun q (hge : Y ≤ u.toNat + 2 * R) => parts_minus (d := d) (hs1.keep (drewN_below' _ q)) ((HY.out.keep HPW1.out.bel).keep (drewN_below' _ q)) HM.out lm hk1 hge)
        obtain ⟨a1, b1, r0, r1, f0, f1, s0, s1, g0, g1, qr, qf, hbel, hsz⟩ := id HPW1.out
        clear hs1 hbel
        by_cases hlt : u.toNat + 2 * R < Y
        · have ho : ordZ (u.toNat + 2 * R) Y = -1 := by unfold ordZ; rw [if_pos hlt]
          rw [ho] at HO
          have HQ := Lib.hid (HQuo.out.zero HPos.out (by rw [← HU.out, ← HR.out]; exact hlt))
          clear hlt ho
          go_wp2_with fail
          refine HO.out.mono ?_
          rintro e w2 ⟨rfl, q, rfl⟩
          go_wp2
          go_roundw
          case rel => exact ⟨(k : Int) - 1, ql, _, k1, _, by omega, by omega, rfl, rfl, by rw [HQ.out.2, ← HU.out, ← HR.out]; exact HS1.out.keep (drewN_below' _ q), HLoc.out, HQ.out.1, HPW1.out.keep (drewN_below' _ q)⟩
          case measure => simp [intOf]
        · obtain ⟨o, ho, o0⟩ : ∃ o, ordZ (u.toNat + 2 * R) Y = o ∧ 0 ≤ o := ⟨_, rfl, by unfold ordZ; rw [if_neg hlt]; split <;> omega⟩
          rw [ho] at HO
          have HQ := Lib.hid (HQuo.out.one HPos.out (by have := HN.out; omega) (by rw [← HU.out, ← HR.out]; omega))
          have HG : Hid (Y ≤ u.toNat + 2 * R) := Lib.hid (by omega)
          clear hlt ho
          go_wp2_with fail
          refine HO.out.mono ?_
          rintro e w2 ⟨rfl, q, rfl⟩
          go_wp2_with fail
          refine (HMi.out q HG.out).mono ?_
          rintro e w3 ⟨a2, n2, c2, rfl, hs2, hb2, hloc2⟩
          have HPW2 := Lib.hid (HPW1.out.keep (Below.trans (drewN_below' _ q) hb2))
          obtain ⟨a1, b1, r0, r1, f0, f1, s0, s1, g0, g1, qr, qf, hbel, hsz⟩ := id HPW2.out
          have hkq : k < ql.length := by rw [HQuo.out.len, ← HN.out]; omega
          have hq0 := qr k hkq
          rw [Nat.zero_add] at hq0
          have hqf := qf k
          have HS2 := Lib.hid (hs2.setFar (B := w.heap.size + 5) (fun ad e => Nat.le_trans HPW1.out.sz (hloc2 ad e)) (p := ⟨w.heap.size + 1 + 1 + 1 + 1, k, none⟩) (by show w.heap.size + 1 + 1 + 1 + 1 < _; omega) (.int .i64 1))
          have HL2 : Hid (LocR (w.heap.size + 5) a2) := Lib.hid (fun ad e => Nat.le_trans HPW1.out.sz (hloc2 ad e))
          have HP3 := Lib.hid (HPW2.out.store hkq 1)
          clear hs2 hb2 hloc2 hbel qr qf
          go_wp2
          go_roundw
          case rel => exact ⟨(k : Int) - 1, _, a2, n2, c2, by omega, by omega, rfl, rfl, by rw [HQ.out.2, ← HU.out, ← HR.out]; exact HS2.out, HL2.out, HQ.out.1, HP3.out⟩
          case measure => simp [intOf]
    · have e : i = -1 := by omega
      subst e
      obtain ⟨d1, d2⟩ := hquo.done
      rw [d2] at hsl
      have hql : ql.length = n := by rw [hquo.len, ← HN.out]
      have ht := trim_at ql (some ⟨w.heap.size + 1 + 1 + 1 + 1, 0, none⟩) n wr (Or.inr ⟨_, _, rfl, by omega, qr⟩) hquo.bits (by omega) (by omega) (by omega)
      rw [hql, d1] at ht
      have HT := Lib.hid ht
      have HSl := Lib.hid hsl
      have HPW := Lib.hid hpw
      have HLoc : Hid (LocR w.heap.size ra) := Lib.hid (fun ad e => Nat.le_trans (by omega) (hloc ad e))
      clear ht hsl hpw hquo d1 d2 hql hbel qr qf hloc c1
      go_wp2_with fail
      refine HT.out.mono ?_
      rintro e w' ⟨⟨k1, rfl, hs1⟩, rfl⟩
      have HS1 := Lib.hid hs1
      clear hs1
      go_wp2
      exact bodyPost_ret (v := .tuple #[.agg #[.bool false, .slice (some ⟨w.heap.size + 1 + 1 + 1 + 1, 0, none⟩) k1 n], .agg #[.bool false, .slice ra rn rc]]) (by simp [results, Tryz.results61, go_sem, r0, r1, s0, s1]) rfl
        ⟨_, _, rfl, big_nat (two_stored HPW.out rfl HS1.out _ _ _ _), big_nat (two_stored HPW.out rfl HSl.out _ _ _ _), Below.setCell (Below.setCell (Below.setCell (Below.setCell HPW.out.bel (show w.heap.size ≤ w.heap.size + 1 + 1 by omega) _) (show w.heap.size ≤ w.heap.size + 1 + 1 by omega) _) (show w.heap.size ≤ w.heap.size + 1 + 1 + 1 by omega) _) (show w.heap.size ≤ w.heap.size + 1 + 1 + 1 by omega) _, ra, rn, rc, rfl, HLoc.out⟩

theorem parts_main (X Y : Nat) (a b : Option Addr) (c d n m : Nat) (w : World) (h : SLF w a (bitsN X)) (h' : SLF w b (bitsN Y)) (hn : n = (bitsN X).length) (hm : m = (bitsN Y).length) (hY : 0 < Y) (ln : n ≤ 1000) (lm : m ≤ 1000) (sg sg' : Bool) :
    Calls Tryz.prog 61 #[.agg #[.bool sg, .slice a n c], .agg #[.bool sg', .slice b m d]] w (PartsPost X Y w) :=
  (parts_mainL X Y a b c d n m w h h' hn hm hY ln lm sg sg').mono fun _ _ ⟨v, v', e, h1, h2, h3, _⟩ => ⟨v, v', e, h1, h2, h3⟩

end Go.Proofs.YtgeneoamngfomaaGreatDoor

namespace Go.Proofs.YtgeneoamngfomaaGreatDoor
open Go.RowKit
set_option linter.unusedVariables false

end Go.Proofs.YtgeneoamngfomaaGreatDoor

namespace Go.Proofs.YtgeneoamngfomaaGreatDoor
open Go.RowKit
set_option linter.unusedVariables false

theorem bigv_nat {w : World} {v : Value} {x : Nat} (h : BigV w v (x : Int)) : ∃ a n c, v = .agg #[.bool false, .slice a n c] ∧ SL w (.slice a n c) (bitsN x) := by
  obtain ⟨s, rfl, hs⟩ := h
  rw [Int.natAbs_natCast] at hs
  obtain ⟨a, c, rfl, h1⟩ := id hs
  exact ⟨a, _, c, by rw [show decide ((x : Int) < 0) = false from decide_eq_false (by omega)], hs⟩

end Go.Proofs.YtgeneoamngfomaaGreatDoor

namespace Go.Proofs.YtgeneoamngfomaaGreatDoor
open Go.RowKit
set_option linter.unusedVariables false

end Go.Proofs.YtgeneoamngfomaaGreatDoor

/-
  A number's values, place by place from behind: no program.
-/
import Derived.Test.YtgeneoamngfomaaGreatDoorVlA
import Derived.Test.YtgeneoamngfomaaGreatDoorVlC
namespace Go.Proofs.YtgeneoamngfomaaGreatDoor
open Go.RowKit Go.Lib
set_option linter.unusedVariables false
set_option linter.unusedSimpArgs false

/-- A node's value, of what stands at the places below it. -/
def lvV (t : List Nd) (fx : Int → Option Rat) (arr : Nat → Option Rat) (p : Nat) : Option (Option Rat) :=
  if opA t p = 1 then some (some (rat (t.getD p default).num (t.getD p default).den))
  else if opA t p = 2 then some (fx (t.getD p default).a)
  else if opA t p = 3 then ngV (some (arr (plA t (p + 1) 0)))
  else twoV (opA t p) (some (arr (plA t (p + 1) 0))) (some (arr (plA t (p + 1) 1)))
/-- Is all below it known? -/
def kidsK (t : List Nd) (arr : Nat → Option Rat) (p : Nat) : Bool := (List.range (cnO (opA t p))).all fun i => (arr (plA t (p + 1) i)).isSome
theorem kidsK_iff {t : List Nd} {arr : Nat → Option Rat} {p : Nat} : kidsK t arr p = true ↔ ∀ i, i < cnO (opA t p) → ∃ r, arr (plA t (p + 1) i) = some r := by
  unfold kidsK
  rw [List.all_eq_true]
  constructor
  · intro h i hi
    exact Option.isSome_iff_exists.1 (h i (List.mem_range.2 hi))
  · intro h i hi
    exact Option.isSome_iff_exists.2 (h i (List.mem_range.1 hi))
def stepV (t : List Nd) (fx : Int → Option Rat) (arr : Nat → Option Rat) (p : Nat) : Option (Nat → Option Rat) :=
  if kidsK t arr p = true then (lvV t fx arr p).map (fun v q => if q = p then v else arr q) else some arr
def runV {c : Nat} (t : List Nd) (fx : Int → Option Rat) (l : List (Fin c)) : Option (Nat → Option Rat) := l.foldl (fun s x => s.bind fun arr => stepV t fx arr x.1) (some fun _ => none)
theorem runV_snoc {c : Nat} (t : List Nd) (fx : Int → Option Rat) (l : List (Fin c)) (x : Fin c) : runV t fx (l ++ [x]) = (runV t fx l).bind fun arr => stepV t fx arr x.1 := by unfold runV; rw [List.foldl_append]; rfl
theorem step_yes {t : List Nd} {fx : Int → Option Rat} {arr : Nat → Option Rat} {p : Nat} {v : Option Rat} (hk : ∀ i, i < cnO (opA t p) → ∃ r, arr (plA t (p + 1) i) = some r) (hl : lvV t fx arr p = some v) : stepV t fx arr p = some (fun q => if q = p then v else arr q) := by
  unfold stepV
  rw [if_pos (kidsK_iff.2 hk), hl]; rfl
theorem step_over {t : List Nd} {fx : Int → Option Rat} {arr : Nat → Option Rat} {p : Nat} (hk : ∀ i, i < cnO (opA t p) → ∃ r, arr (plA t (p + 1) i) = some r) (hl : lvV t fx arr p = none) : stepV t fx arr p = none := by
  unfold stepV
  rw [if_pos (kidsK_iff.2 hk), hl]; rfl
theorem step_no {t : List Nd} {fx : Int → Option Rat} {arr : Nat → Option Rat} {p i : Nat} (hi : i < cnO (opA t p)) (hk : arr (plA t (p + 1) i) = none) : stepV t fx arr p = some arr := by
  unfold stepV
  rw [if_neg (fun h => by obtain ⟨r, hr⟩ := kidsK_iff.1 h i hi; rw [hk] at hr; cases hr)]
theorem lv_is {t : List Nd} {fx : Int → Option Rat} {arr : Nat → Option Rat} {p : Nat} (h : NmA t p) (hk : ∀ i, i < cnO (opA t p) → vlA t fx (plA t (p + 1) i) = some (arr (plA t (p + 1) i))) : lvV t fx arr p = vlA t fx p := by
  rw [vlA_eq h]
  unfold lvV
  rcases h.cn with ⟨e | e, _⟩ | ⟨e, e2⟩ | ⟨⟨e3, e4⟩, e2⟩
  · rw [if_pos e, if_pos e]
  · rw [if_neg (by omega), if_pos e, if_neg (by omega), if_pos e]
  · rw [if_neg (by omega), if_neg (by omega), if_pos e, if_neg (by omega), if_neg (by omega), if_pos e, hk 0 (by omega)]
  · rw [if_neg (by omega), if_neg (by omega), if_neg (by omega), if_neg (by omega), if_neg (by omega), if_neg (by omega), hk 0 (by omega), hk 1 (by omega)]
theorem two_no {op : Int} {a b : Option Rat} (h : a = none ∨ b = none) : twoV op (some a) (some b) = some none := by
  rcases h with rfl | rfl
  · rfl
  · cases a <;> rfl
theorem vl_no {t : List Nd} {fx : Int → Option Rat} {arr : Nat → Option Rat} {p : Nat} (h : NmA t p) (hk : ∀ i, i < cnO (opA t p) → vlA t fx (plA t (p + 1) i) = some (arr (plA t (p + 1) i))) {i : Nat} (hi : i < cnO (opA t p)) (hn : arr (plA t (p + 1) i) = none) : vlA t fx p = some none := by
  rcases h.cn with ⟨_, e2⟩ | ⟨e, e2⟩ | ⟨⟨e3, e4⟩, e2⟩
  · omega
  · rw [vl_neg h e]
    obtain rfl : i = 0 := by omega
    rw [hk 0 (by omega), hn]; rfl
  · rw [vl_two h e3, hk 0 (by omega), hk 1 (by omega)]
    refine two_no ?_
    rcases (show i = 0 ∨ i = 1 by omega) with rfl | rfl
    · exact .inl hn
    · exact .inr hn
/-- Gone through from behind, all places have their values, or something does not fit. -/
theorem run_down {t : List Nd} {fx : Int → Option Rat} (hT : NmA t 0) (hsz : szA t 0 = t.length) {c : Nat} (hc : c = t.length) : ∀ (k : Nat) (h : k ≤ c),
    (∀ arr, runV t fx (dnF c k h) = some arr → (∀ q, c - k ≤ q → q < c → vlA t fx q = some (arr q)) ∧ ∀ q, q < c - k → arr q = none) ∧ (runV t fx (dnF c k h) = none → vlA t fx 0 = none)
  | 0, h => ⟨fun arr ha => by
      have ha' : (some fun _ => none : Option (Nat → Option Rat)) = some arr := ha
      injection ha' with ha'
      subst ha'
      exact ⟨fun q h1 h2 => by omega, fun _ _ => rfl⟩, fun ha => by cases ha⟩
  | k + 1, h => by
    obtain ⟨ih1, ih2⟩ := run_down hT hsz hc k (Nat.le_of_succ_le h)
    have hp : c - 1 - k < t.length := by omega
    obtain ⟨n1, n2⟩ := NmA.in (szA t 0) 0 (Nat.le_refl _) hT (c - 1 - k) (Nat.zero_le _) (by omega)
    rw [dnF, runV_snoc]
    cases hs : runV t fx (dnF c k (Nat.le_of_succ_le h)) with
    | none => exact ⟨fun arr ha => (by cases ha), fun _ => ih2 hs⟩
    | some arr =>
      obtain ⟨a1, a2⟩ := ih1 arr hs
      have hk : ∀ i, i < cnO (opA t (c - 1 - k)) → vlA t fx (plA t (c - 1 - k + 1) i) = some (arr (plA t (c - 1 - k + 1) i)) := fun i hi => by
        obtain ⟨k1, k2, k3⟩ := n1.kid hi
        have := k1.tm.bd
        exact a1 _ (by omega) (by omega)
      show (∀ arr', stepV t fx arr (c - 1 - k) = some arr' → _) ∧ (stepV t fx arr (c - 1 - k) = none → _)
      by_cases hall : ∀ i, i < cnO (opA t (c - 1 - k)) → ∃ r, arr (plA t (c - 1 - k + 1) i) = some r
      · have hl := lv_is n1 hk
        cases hv : vlA t fx (c - 1 - k) with
        | none =>
          rw [hv] at hl
          rw [step_over hall hl]
          exact ⟨fun arr' ha => (by cases ha), fun _ => vl_up (szA t 0) 0 (Nat.le_refl _) hT (c - 1 - k) (Nat.zero_le _) (by omega) hv⟩
        | some v =>
          rw [hv] at hl
          rw [step_yes hall hl]
          refine ⟨fun arr' ha => ?_, fun ha => by cases ha⟩
          injection ha with ha
          subst ha
          refine ⟨fun q h1 h2 => ?_, fun q h1 => ?_⟩
          · show vlA t fx q = some (if q = c - 1 - k then v else arr q)
            by_cases e : q = c - 1 - k
            · rw [if_pos e, e]; exact hv
            · rw [if_neg e]; exact a1 q (by omega) h2
          · show (if q = c - 1 - k then v else arr q) = none
            rw [if_neg (by omega)]; exact a2 q (by omega)
      · obtain ⟨i, hi⟩ := Classical.not_forall.1 hall
        obtain ⟨hi1, hi2⟩ := Classical.not_imp.1 hi
        have hn : arr (plA t (c - 1 - k + 1) i) = none := by
          cases hx : arr (plA t (c - 1 - k + 1) i) with
          | none => rfl
          | some r => exact absurd ⟨r, hx⟩ hi2
        rw [step_no hi1 hn]
        refine ⟨fun arr' ha => ?_, fun ha => by cases ha⟩
        injection ha with ha
        subst ha
        refine ⟨fun q h1 h2 => ?_, fun q h1 => a2 q (by omega)⟩
        by_cases e : q = c - 1 - k
        · rw [e, a2 (c - 1 - k) (by omega)]; exact vl_no n1 hk hi1 hn
        · exact a1 q (by omega) h2
theorem lv_fits {t : List Nd} {fx : Int → Option Rat} (hN : ∀ q, q < t.length → opA t q = 1 → OkR (t.getD q default).num (t.getD q default).den) (hF : ∀ k r, fx k = some r → fitsR r = true) {arr : Nat → Option Rat} (hA : ∀ q r, arr q = some r → fitsR r = true) {p : Nat} (hp : p < t.length) {r : Rat} (h : lvV t fx arr p = some (some r)) : fitsR r = true := by
  unfold lvV at h
  split at h
  · rename_i e
    injection h with h
    injection h with h
    rw [← h]; exact fitsR_ok (hN p hp e)
  · split at h
    · injection h with h
      exact hF _ _ h
    · split at h
      · match h1 : arr (plA t (p + 1) 0) with
        | none => rw [h1] at h; cases h
        | some a =>
          rw [h1] at h
          have : some (some (-a)) = some (some r) := h
          injection this with this
          injection this with this
          rw [← this]; exact fits_neg (hA _ _ h1)
      · match h1 : arr (plA t (p + 1) 0), h2 : arr (plA t (p + 1) 1) with
        | none, none => rw [h1, h2] at h; cases h
        | none, some b => rw [h1, h2] at h; cases h
        | some a, none => rw [h1, h2] at h; cases h
        | some a, some b =>
          rw [h1, h2] at h
          exact two_fits (hA _ _ h1) (hA _ _ h2) h
theorem run_fits {c : Nat} {t : List Nd} {fx : Int → Option Rat} (hc : c = t.length) (hN : ∀ q, q < t.length → opA t q = 1 → OkR (t.getD q default).num (t.getD q default).den) (hF : ∀ k r, fx k = some r → fitsR r = true) {arr : Nat → Option Rat} (hA : ∀ q r, arr q = some r → fitsR r = true) {p : Nat} (hp : p < t.length) {arr' : Nat → Option Rat} (h : stepV t fx arr p = some arr') : ∀ q r, arr' q = some r → fitsR r = true := by
  intro q r hq
  unfold stepV at h
  split at h
  · obtain ⟨v, hv, rfl⟩ := Option.map_eq_some_iff.1 h
    dsimp only at hq
    split at hq
    · subst hq
      exact lv_fits hN hF hA hp hv
    · exact hA _ _ hq
  · injection h with h
    subst h
    exact hA _ _ hq

end Go.Proofs.YtgeneoamngfomaaGreatDoor

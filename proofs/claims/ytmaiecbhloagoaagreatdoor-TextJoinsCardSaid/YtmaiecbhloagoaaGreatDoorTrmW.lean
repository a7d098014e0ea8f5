/-
  Package term: told, Keys, Choices, Depth, Horizon; the reference's Keys.
-/
import Derived.Test.YtmaiecbhloagoaaGreatDoorTrm
import Derived.Test.YtmaiecbhloagoaaGreatDoorShelf
import Derived.Sort.OwnSortedInts
namespace Go.Proofs.YtmaiecbhloagoaaGreatDoor
open Go.RowKit Go.Lib Go.Sort
set_option linter.unusedVariables false
set_option linter.unusedSimpArgs false

theorem chk_zero {t : List Nd} (h : chkK t = 0) : (ofK t).2 = 0 ∧ (ofK t).1 = 2 := by
  unfold chkK at h
  by_cases h1 : (ofK t).2 ≠ 0
  · rw [if_pos h1] at h; exact absurd h h1
  · rw [if_neg h1] at h
    by_cases h2 : (ofK t).1 = 2
    · exact ⟨by omega, h2⟩
    · rw [if_neg h2] at h; cases h
theorem chk_sl {t : List Nd} (h : chkK t = 0) {w : World} {v : Value} (hs : SlT w v t) : 0 < t.length ∧ ∃ b o cap, v = .slice (some ⟨b, o, none⟩) t.length cap ∧ t.length ≤ cap ∧ cap ≤ 9223372036854775807 ∧ NdA w b o t := by
  rcases hs with ⟨rfl, _⟩ | h1
  · have := (ofK_zero (chk_zero h).1).2.1
    exact absurd (whole_len this) (by simp)
  · exact h1

/-- The keys that told answers, in the sort's words. -/
def tdS (t : List Nd) (p : Int → Bool) : List Int := Lib.compact ((tdN t p t.length).mergeSort fun x y => decide (x ≤ y))

/-- Is it one of two ops? -/
def pT (o1 o2 : Int) (x : Int) : Bool := decide (x = o1) || decide (x = o2)
theorem pT_one : (fun x : Int => [(2 : Int)].contains x) = pT 2 2 := by
  funext x
  simp [pT]
theorem pT_two : (fun x : Int => [(16 : Int), 17].contains x) = pT 16 17 := by
  funext x
  simp [pT]
theorem tdS_one {t : List Nd} (hk : chkK t = 0) : tdS t (fun x => [(2 : Int)].contains x) = kyN t (pT 2 2) 64 := by
  rw [pT_one]
  refine keys_of (fun i hi hp => fld_key (ofK_zero (chk_zero hk).1).2.2.1 hi ?_)
  simp [pT] at hp
  exact .inl hp
theorem tdS_two {t : List Nd} (hk : chkK t = 0) : tdS t (fun x => [(16 : Int), 17].contains x) = kyN t (pT 16 17) 64 := by
  rw [pT_two]
  refine keys_of (fun i hi hp => fld_key (ofK_zero (chk_zero hk).1).2.2.1 hi ?_)
  simp [pT] at hp
  exact .inr hp

/-- What Keys and Choices answer. -/
def KeyE (t : List Nd) (l : List Int) (w : World) (e : Ending) (w' : World) : Prop :=
  (chkK t ≠ 0 → e = .returned (.tuple #[.slice none 0 0, .int .i64 (chkK t)])) ∧ (chkK t = 0 → ∃ v', e = .returned (.tuple #[v', .int .i64 0]) ∧ YtmaiecbhloagoaaGreatDoor.Own w' w.heap.size v' l)
theorem key_two {t : List Nd} {l : List Int} {w : World} {e : Ending} {w' : World} (h : KeyE t l w e w') : ∃ v1 v2, e = .returned (.tuple #[v1, v2]) := by
  by_cases hk : chkK t = 0
  · obtain ⟨v', h1, _⟩ := h.2 hk
    exact ⟨_, _, h1⟩
  · exact ⟨_, _, h.1 hk⟩
/-- What Depth answers. -/
noncomputable def dpK (t : List Nd) : Nat := if chkK t = 0 then dpA t 0 else 0
/-- What Horizon answers. -/
noncomputable def hzK (t : List Nd) : Int := if chkK t = 0 then hzN t t.length else 0
end Go.Proofs.YtmaiecbhloagoaaGreatDoor

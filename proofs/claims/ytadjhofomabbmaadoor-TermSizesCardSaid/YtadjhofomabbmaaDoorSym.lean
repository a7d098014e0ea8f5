/-
  slices.symMergeCmpFunc at []int, by giveAway's own order: two sorted parts become one.
-/
import Derived.Test.YtadjhofomabbmaaDoorRot
import Derived.Deep.CutBlock
import Derived.Deep.Cut
import Derived.Deep.CutRange
import Derived.Deep.DeepCutAuto
namespace Go.Proofs.YtadjhofomabbmaaDoor
open Go.RowKit Go.Sort
set_option linter.unusedVariables false

theorem RotOf.up {a k : Nat} {d dk : Array Int} (h : RotOf a (a + 1) (k + 1) d dk) (hk : a ≤ k) (hs : k + 1 < d.size) : RotOf a (a + 1) (k + 2) d (swp dk k (k + 1)) := by
  refine ⟨by rw [size_swp]; exact h.1, fun t => ?_⟩
  have hs1 := h.1
  by_cases e1 : t = k + 1
  · subst e1
    rw [swp_right _ _ _ (by omega), h.2]; congr 1; unfold rotIx; repeat' split
    all_goals omega
  · by_cases e2 : t = k
    · subst e2
      rw [swp_left _ _ _ (by omega) (by omega), h.2]; congr 1; unfold rotIx; repeat' split
      all_goals omega
    · rw [swp_other _ _ _ _ e2 e1, h.2]; congr 1; unfold rotIx; repeat' split
      all_goals omega
theorem RotOf.down {k m : Nat} {d dk : Array Int} (h : RotOf k m (m + 1) d dk) (hk : k ≤ m) (hk0 : 0 < k) (hs : m < d.size) : RotOf (k - 1) m (m + 1) d (swp dk k (k - 1)) := by
  refine ⟨by rw [size_swp]; exact h.1, fun t => ?_⟩
  have hs1 := h.1
  by_cases e1 : t = k - 1
  · subst e1
    rw [swp_right _ _ _ (by omega), h.2]; congr 1; unfold rotIx; repeat' split
    all_goals omega
  · by_cases e2 : t = k
    · subst e2
      rw [swp_left _ _ _ (by omega) (by omega), h.2]; congr 1; unfold rotIx; repeat' split
      all_goals omega
    · rw [swp_other _ _ _ _ e2 e1, h.2]; congr 1; unfold rotIx; repeat' split
      all_goals omega

theorem permV {V : Int → Prop} {a b N : Nat} {d d' : Array Int} (h : PermIn a b d d') (hN : d.size = N) (hb : b ≤ N) (hV : ∀ t, t < N → V d[t]!) : ∀ t, t < N → V d'[t]! := by
  intro t ht
  by_cases c : a ≤ t ∧ t < b
  · exact permIn_all d d' a b V (by omega) h (fun i _ h2 => hV i (by omega)) t c.1 c.2
  · rw [h.2.1 t (by omega)]; exact hV t ht

theorem rowW_again (w : World) (blk off n m : Nat) (d d' : Array Int) (h : d'.size = d.size) : rowW (rowW w blk off n d) blk off m d' = rowW w blk off (n + m) d' :=
  putRow_ahead_putRow _ _ _ _ _ _ _ _ h
theorem rowW_holds {w : World} {blk off n : Nat} {d0 d : Array Int} (h : Holds (Value.int .i64) w blk off d0) (hs : d.size = d0.size) : Holds (Value.int .i64) (rowW w blk off n d) blk off d :=
  holds_putRow _ _ _ _ d0 d (holds_ahead _ _ _ _ _ _ h) hs

/-- Where the search for the first part's one number stands. -/
def FoundA (κ : Int → Int) (d : Array Int) (a m b i j : Nat) : Prop := (i = m ∨ κ d[a]! < κ d[i - 1]!) ∧ (j = b ∨ ¬ κ d[a]! < κ d[j]!)
/-- Where the search for the second part's one number stands. -/
def FoundB (κ : Int → Int) (d : Array Int) (a m i j : Nat) : Prop := (i = a ∨ ¬ κ d[i - 1]! < κ d[m]!) ∧ (j = m ∨ κ d[j]! < κ d[m]!)

def SymPost (κ : Int → Int) (w : World) (blk off a b : Nat) (d : Array Int) (e : Ending) (w' : World) : Prop :=
  e = .returned (.tuple #[]) ∧ ∃ q d', w' = rowW w blk off q d' ∧ PermIn a b d d' ∧ Srt κ a b d'

end Go.Proofs.YtadjhofomabbmaaDoor

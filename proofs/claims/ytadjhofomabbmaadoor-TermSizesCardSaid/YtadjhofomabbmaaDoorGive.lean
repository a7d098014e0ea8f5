/-
  amount.giveAway: one more to each of as many parts as are left, in the order of what was cut off.
-/
import Derived.Test.YtadjhofomabbmaaDoorStableN
import Derived.Test.YtadjhofomabbmaaDoorCmp
import Derived.Test.YtadjhofomabbmaaDoorCells
import Derived.Deep.OwnRows
import Derived.Below
import Derived.WalkMore
import Derived.Deep.LoopGhost
namespace Go.Proofs.YtadjhofomabbmaaDoor
open Go.RowKit Go.Sort
set_option linter.unusedVariables false

theorem rowW_set (w : World) (blk off n : Nat) (d : Array Int) (i : Nat) (x : Int) (hi : i < d.size) :
    (rowW w blk off n d).setCell ⟨blk, off + i, none⟩ (.int .i64 x) = rowW w blk off n (d.setIfInBounds i x) := putRow_set (Value.int .i64) _ blk off d i x hi
theorem rowW_other (w : World) (blk off n : Nat) (d : Array Int) (a : Addr) (h : a.block ≠ blk) : (rowW w blk off n d).cell? a = w.cell? a := by
  unfold rowW; rw [cell?_putRow_other _ _ _ _ _ _ (Or.inl h)]; rfl
theorem rowW_frozenA (w : World) (blk off n : Nat) (d : Array Int) (a : Addr) : (rowW w blk off n d).frozen? a = w.frozen? a := by
  unfold rowW; rw [frozen?_putRow]; rfl
theorem rowW_size (w : World) (blk off n : Nat) (d : Array Int) : (rowW w blk off n d).heap.size = w.heap.size := by
  unfold rowW; rw [size_putRow]; rfl
theorem rowW_below (w : World) (blk off n B : Nat) (d : Array Int) (h : B ≤ blk) : Below B w (rowW w blk off n d) := by
  refine ⟨rfl, rfl, rfl, by rw [rowW_size]; exact Nat.le_refl _, fun k hk => ?_⟩
  show (w.heap.modify blk _)[k]? = _
  rw [Array.getElem?_modify, if_neg (by omega)]

/-- The row of places, filled so far. -/
def fillI (n : Nat) : Nat → Array Int
  | 0 => (List.replicate n (0 : Int)).toArray
  | k + 1 => (fillI n k).setIfInBounds k (k : Int)
theorem fillI_size (n : Nat) : ∀ k, (fillI n k).size = n
  | 0 => by simp [fillI]
  | k + 1 => by simp [fillI, fillI_size n k]
theorem fillI_at (n : Nat) : ∀ k t, t < k → t < n → (fillI n k)[t]! = (t : Int)
  | 0, t, h, _ => by omega
  | k + 1, t, h, hn => by
    have hs := fillI_size n k
    rw [fillI]
    by_cases e : t = k
    · subst e; exact getElem!_set_same _ _ _ (by omega)
    · rw [getElem!_set_other _ _ _ _ e]; exact fillI_at n k t (by omega) hn

theorem made_holds (w : World) (n : Nat) (e : TypeId) : Holds (Value.int .i64) (w.alloc (.cells (madeCells #[.int .i64 0] n) e)) w.heap.size 0 (fillI n 0) := by
  intro j hj
  rw [fillI_size] at hj
  refine ⟨?_, ?_⟩
  · rw [World.cell?_alloc_at _ _ _ _ rfl]
    simp [madeCells, fillI, hj, Nat.mod_one]
  · exact World.frozen?_alloc_at _ _ _ _ rfl

/-- Parts, with one more for each of the first places of an order. -/
def addK (P : Nat → Int) (d : Array Int) : Nat → Nat → Int
  | 0 => P
  | k + 1 => fun t => addK P d k t + if (t : Int) = d[k]! then 1 else 0

theorem addK_new (P : Nat → Int) (d : Array Int) (t : Nat) : ∀ k, (∀ j, j < k → d[j]! ≠ (t : Int)) → addK P d k t = P t
  | 0, _ => rfl
  | k + 1, h => by
    show addK P d k t + (if (t : Int) = d[k]! then 1 else 0) = P t
    rw [addK_new P d t k (fun j hj => h j (by omega)), if_neg (fun e => h k (by omega) e.symm)]; omega

theorem Srt.ne {κ : Int → Int} {a b : Nat} {d : Array Int} (h : Srt κ a b d) {i j : Nat} (h1 : a ≤ i) (h2 : i < j) (h3 : j < b) : d[i]! ≠ d[j]! := fun e => by
  have := h i j h1 h2 h3; rw [e] at this; unfold pr at this; omega

/-- Where the giving stands. -/
structure GiveInv (P : Nat → Int) (d : Array Int) (w : World) (n pb ob k : Nat) (wx : World) : Prop where
  below : Below pb w wx
  ord : ∀ t, t < n → wx.cell? ⟨ob, 0 + t, none⟩ = some (.int .i64 d[t]!)
  par : ∀ t, t < n → wx.cell? ⟨pb, 0 + t, none⟩ = some (.int .i64 (addK P d k t))
  frz : ∀ t, t < n → wx.frozen? ⟨pb, 0 + t, none⟩ = false

theorem GiveInv.step {P : Nat → Int} {d : Array Int} {w wx : World} {n pb k j : Nat} (h : GiveInv P d w n pb (w.heap.size + 1) k wx) (hj : d[k]! = (j : Int)) (hjn : j < n) (hpb : pb < w.heap.size) (hnew : addK P d k j = P j) :
    GiveInv P d w n pb (w.heap.size + 1) (k + 1) (wx.setCell ⟨pb, j, none⟩ (.int .i64 (P j + 1))) := by
  refine ⟨h.below.setCell (Nat.le_refl _) _, fun t ht => ?_, fun t ht => ?_, fun t ht => ?_⟩
  · rw [cell_other (by intro e; have := congrArg Addr.block e; simp at this; omega)]; exact h.ord t ht
  · show _ = some (Value.int .i64 (addK P d k t + if (t : Int) = d[k]! then 1 else 0))
    by_cases e : t = j
    · subst e
      rw [Nat.zero_add, cell_same (u := .int .i64 (P t)) (by have := h.par t ht; rw [Nat.zero_add, hnew] at this; exact this), hj, if_pos rfl, hnew]
    · rw [cell_other (by intro e'; have := congrArg Addr.off e'; simp at this; omega), h.par t ht, hj, if_neg (by omega), Int.add_zero]
  · rw [World.frozen?_setCell]; exact h.frz t ht

end Go.Proofs.YtadjhofomabbmaaDoor

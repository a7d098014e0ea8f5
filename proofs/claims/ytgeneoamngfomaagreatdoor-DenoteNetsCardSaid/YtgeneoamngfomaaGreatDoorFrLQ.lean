/-
  What a law's frame tells of slices of flows that came in.
-/
import Derived.Test.YtgeneoamngfomaaGreatDoorProg
import Derived.WalkKit
import Derived.ProofKit
import Derived.ChangeSame
import Derived.Deep.Strs
import Derived.DataReads
import Derived.DataElems
import Derived.OpenShut
import Derived.Test.YtgeneoamngfomaaGreatDoorEM
import Derived.Test.YtgeneoamngfomaaGreatDoorFa
import Derived.Test.YtgeneoamngfomaaGreatDoorEz
namespace Go.Proofs.YtgeneoamngfomaaGreatDoor
open Go.ChangeShapes Go.WideShapes Go.ChangeAt Go.RowKit
set_option linter.unusedVariables false

theorem cells_flow : Tryz.prog.cellsOf 50 = 3 := by kernel_rfl
theorem cells_intF : Tryz.prog.cellsOf 3 = 1 := by kernel_rfl
/-- A number that fits. -/
def Fit64 (n : Int) : Prop := -9223372036854775808 ≤ n ∧ n ≤ 9223372036854775807
/-- A flow's cells. -/
structure FlowAt (w : World) (a : Addr) (i : Nat) (x y z : Int) : Prop where
  c0 : w.cell? (a.add (i * 3)) = some (.int .i64 x)
  c1 : w.cell? (a.add (i * 3 + 1)) = some (.int .i64 y)
  c2 : w.cell? (a.add (i * 3 + 2)) = some (.int .i64 z)
  b0 : Fit64 x
  b1 : Fit64 y
  b2 : Fit64 z
set_option maxRecDepth 100000 in
/-- A slice of flows that came in: nil, or a row of them. -/
theorem open_flows {H : Type} {enc : TypeId × Value → H} {w : World} {base : Nat} {spare : Nat → Bool} {held : Bool} {fuel : Nat} {cs : List Value} {x : DataW H × List MemPlace}
    (h : DataW.trod enc Tryz.prog w base spare held fuel 30 cs = some x) :
    cs = [.slice none 0 0] ∨ ∃ (a : Addr) (len cap : Nat), cs = [.slice (some a) len cap] ∧ base ≤ a.block ∧ len ≤ cap ∧ cap ≤ maxLen ∧ ∀ i, i < len → ∃ x y z : Int, FlowAt w a i x y z := by
  rcases DataW.trod_slice Tryz.underlying30 h with h0 | ⟨a, len, cap, elems, rest, n, _, rfl, rfl, hb, hl, hm, hlen, hel, hsp, hns⟩
  · exact Or.inl h0.1
  · refine Or.inr ⟨a, len, cap, rfl, hb, hl, hm, fun i hi => ?_⟩
    have hE := hel i hi
    rw [cells_flow, List.getElem?_eq_getElem (by omega)] at hE
    obtain ⟨cs', hcs, hy⟩ := Option.bind_eq_some_iff.1 hE
    obtain ⟨_, hl3, hc⟩ := World.cells?_some hcs
    obtain ⟨y0, y1, y2, m, _, _, h0, h1, h2⟩ := Go.Deep.trod_struct3 Tryz.underlying50 hy
    obtain ⟨x0, e0, _, w0⟩ := DataW.trod_int Tryz.underlying3 h0
    obtain ⟨x1, e1, _, w1⟩ := DataW.trod_int Tryz.underlying3 h1
    obtain ⟨x2, e2, _, w2⟩ := DataW.trod_int Tryz.underlying3 h2
    change List.take (Tryz.prog.cellsOf 3) (List.drop 0 cs') = _ at e0
    change List.take (Tryz.prog.cellsOf 3) (List.drop 1 cs') = _ at e1
    change List.take (Tryz.prog.cellsOf 3) (List.drop 2 cs') = _ at e2
    rw [cells_intF] at e0 e1 e2
    have g : ∀ (j : Nat) (v : Value), List.take 1 (List.drop j cs') = [v] → cs'[j]? = some v := fun j v e => by
      have := congrArg (·[0]?) e
      simpa [List.getElem?_take, List.getElem?_drop] using this
    have q0 := (hc 0 (by omega)).trans (g 0 _ e0)
    have q1 := (hc 1 (by omega)).trans (g 1 _ e1)
    have q2 := (hc 2 (by omega)).trans (g 2 _ e2)
    rw [Addr.add_add] at q0 q1 q2
    exact ⟨x0, x1, x2, q0, q1, q2, bounds_i64 w0, bounds_i64 w1, bounds_i64 w2⟩

end Go.Proofs.YtgeneoamngfomaaGreatDoor

namespace Go.Proofs.YtgeneoamngfomaaGreatDoor
open Go Go.ChangeShapes Go.WideShapes Go.ChangeAt Go.RowKit Go.Lib
set_option linter.unusedVariables false

set_option maxRecDepth 100000 in
theorem open_flq {H : Type} {enc : TypeId × Value → H} {w : World} {base : Nat} {spare : Nat → Bool} {held : Bool} {fuel : Nat} {cs : List Value} {x : DataW H × List MemPlace}
    (h : DataW.trod enc Tryz.prog w base spare held fuel 30 cs = some x) : ∃ (v : Value) (t : List Flw), cs = [v] ∧ RowX flL 3 w v t ∧ ∀ x ∈ t, I64 x.d ∧ I64 x.c ∧ I64 x.n := by
  rcases open_flows h with h0 | ⟨a, len, cap, h0, _, hl, hm, hel⟩
  · exact ⟨_, [], h0, .inl ⟨rfl, _, _, rfl⟩, fun x hx => (nomatch hx)⟩
  · have hmx : cap ≤ 9223372036854775807 := by unfold maxLen at hm; omega
    by_cases hz : len = 0
    · subst hz
      exact ⟨_, [], h0, .inl ⟨rfl, _, _, rfl⟩, fun x hx => (nomatch hx)⟩
    · obtain ⟨f, hf⟩ : ∃ f : Nat → Flw, ∀ i, i < len → FlowAt w a i (f i).d (f i).c (f i).n := by
        classical
        have all : ∀ i, i < len → ∃ g : Flw, FlowAt w a i g.d g.c g.n := fun i hi => by
          obtain ⟨x, y, z, h⟩ := hel i hi
          exact ⟨⟨x, y, z⟩, h⟩
        refine ⟨fun i => if h : i < len then Classical.choose (all i h) else default, fun i hi => ?_⟩
        simp only [dif_pos hi]
        exact Classical.choose_spec (all i hi)
      have hL : ((List.range len).map f).length = len := by simp
      have hG : ∀ i, i < len → ((List.range len).map f).getD i default = f i := fun i hi => by
        rw [List.getD_eq_getElem?_getD, List.getElem?_map, List.getElem?_range hi]; rfl
      obtain ⟨b, o, spot⟩ := a
      have hspot : spot = none := by
        have := World.cell?_spot (hf 0 (by omega)).c0
        simpa [Addr.add] using this
      subst hspot
      refine ⟨_, (List.range len).map f, h0, .inr ⟨by omega, b, o, cap, by rw [hL], by omega, hmx, fun j hj => ?_⟩, fun x hx => ?_⟩
      · rw [hL] at hj
        rw [hG j hj]
        have q0 := (hf j hj).c0
        have q1 := (hf j hj).c1
        have q2 := (hf j hj).c2
        rw [Go.WideShapes.add_plain] at q0 q1 q2
        intro i c hi hc
        rcases (show i = 0 ∨ i = 1 ∨ i = 2 by omega) with rfl | rfl | rfl
        · obtain rfl : _ = c := by simpa [flL] using hc
          exact q0
        · obtain rfl : _ = c := by simpa [flL] using hc
          exact q1
        · obtain rfl : _ = c := by simpa [flL] using hc
          exact q2
      · obtain ⟨i, hi, rfl⟩ := List.mem_map.1 hx
        have hi := List.mem_range.1 hi
        exact ⟨(hf i hi).b0, (hf i hi).b1, (hf i hi).b2⟩

end Go.Proofs.YtgeneoamngfomaaGreatDoor

/-
  What a law's frame tells of slices of flows that came in.
-/
import Derived.Test.YtadjhofomabbmaaDoorProg
import Derived.WalkKit
import Derived.ProofKit
import Derived.ChangeSame
import Derived.Deep.Strs
import Derived.DataReads
import Derived.DataElems
import Derived.OpenShut
namespace Go.Proofs.YtadjhofomabbmaaDoor
open Go.ChangeShapes Go.WideShapes Go.ChangeAt Go.RowKit
set_option linter.unusedVariables false

theorem cells_flow : Tryd.prog.cellsOf 25 = 3 := by kernel_rfl
theorem cells_intF : Tryd.prog.cellsOf 3 = 1 := by kernel_rfl
/-- A number that fits. -/
def Fit64 (n : Int) : Prop := -9223372036854775808 ≤ n ∧ n ≤ 9223372036854775807
/-- A flow's cells. -/
structure FlowAt (w : World) (a : Addr) (i : Nat) (x y z : Int) : Prop where
  c0 : w.cell? (a.add (i * 3)) = some (.int .i64 x)
  c1 : w.cell? (a.add (i * 3 + 1)) = some (.int .i64 y)
  c2 : w.cell? (a.add (i * 3 + 2)) = some (.int .i64 z)
  b0 : Fit64 x
  b1 : Fit64 y
  b2 : Fit64 z
set_option maxRecDepth 100000 in
/-- A slice of flows that came in: nil, or a row of them. -/
theorem open_flows {H : Type} {enc : TypeId × Value → H} {w : World} {base : Nat} {spare : Nat → Bool} {held : Bool} {fuel : Nat} {cs : List Value} {x : DataW H × List MemPlace}
    (h : DataW.trod enc Tryd.prog w base spare held fuel 22 cs = some x) :
    cs = [.slice none 0 0] ∨ ∃ (a : Addr) (len cap : Nat), cs = [.slice (some a) len cap] ∧ base ≤ a.block ∧ len ≤ cap ∧ cap ≤ maxLen ∧ ∀ i, i < len → ∃ x y z : Int, FlowAt w a i x y z := by
  rcases DataW.trod_slice Tryd.underlying22 h with h0 | ⟨a, len, cap, elems, rest, n, _, rfl, rfl, hb, hl, hm, hlen, hel, hsp, hns⟩
  · exact Or.inl h0.1
  · refine Or.inr ⟨a, len, cap, rfl, hb, hl, hm, fun i hi => ?_⟩
    have hE := hel i hi
    rw [cells_flow, List.getElem?_eq_getElem (by omega)] at hE
    obtain ⟨cs', hcs, hy⟩ := Option.bind_eq_some_iff.1 hE
    obtain ⟨_, hl3, hc⟩ := World.cells?_some hcs
    obtain ⟨y0, y1, y2, m, _, _, h0, h1, h2⟩ := Go.Deep.trod_struct3 Tryd.underlying25 hy
    obtain ⟨x0, e0, _, w0⟩ := DataW.trod_int Tryd.underlying3 h0
    obtain ⟨x1, e1, _, w1⟩ := DataW.trod_int Tryd.underlying3 h1
    obtain ⟨x2, e2, _, w2⟩ := DataW.trod_int Tryd.underlying3 h2
    change List.take (Tryd.prog.cellsOf 3) (List.drop 0 cs') = _ at e0
    change List.take (Tryd.prog.cellsOf 3) (List.drop 1 cs') = _ at e1
    change List.take (Tryd.prog.cellsOf 3) (List.drop 2 cs') = _ at e2
    rw [cells_intF] at e0 e1 e2
    have g : ∀ (j : Nat) (v : Value), List.take 1 (List.drop j cs') = [v] → cs'[j]? = some v := fun j v e => by
      have := congrArg (·[0]?) e
      simpa [List.getElem?_take, List.getElem?_drop] using this
    have q0 := (hc 0 (by omega)).trans (g 0 _ e0)
    have q1 := (hc 1 (by omega)).trans (g 1 _ e1)
    have q2 := (hc 2 (by omega)).trans (g 2 _ e2)
    rw [Addr.add_add] at q0 q1 q2
    exact ⟨x0, x1, x2, q0, q1, q2, bounds_i64 w0, bounds_i64 w1, bounds_i64 w2⟩

end Go.Proofs.YtadjhofomabbmaaDoor

/-
  Slices of flows that came in, as lists; what CashJoins's row lists.
-/
import Derived.Test.YtadjhofomabbmaaDoorFrameL
import Derived.Test.YtadjhofomabbmaaDoorTotA
import Derived.Test.YtadjhofomabbmaaDoorCshL
namespace Go.Proofs.YtadjhofomabbmaaDoor
open Go Go.ChangeShapes Go.WideShapes Go.ChangeAt Go.RowKit Go.Lib
set_option linter.unusedVariables false

set_option maxRecDepth 100000 in
theorem open_fls {H : Type} {enc : TypeId × Value → H} {w : World} {base : Nat} {spare : Nat → Bool} {held : Bool} {fuel : Nat} {cs : List Value} {x : DataW H × List MemPlace}
    (h : DataW.trod enc Tryd.prog w base spare held fuel 22 cs = some x) : ∃ (v : Value) (t : List Fl) (a : Option Addr) (cap : Nat), cs = [v] ∧ v = .slice a t.length cap ∧ SlF w v t ∧ (∀ x ∈ t, -9223372036854775808 ≤ x.amt ∧ x.amt ≤ 9223372036854775807) ∧ t.length ≤ 9223372036854775807 := by
  rcases open_flows h with h0 | ⟨a, len, cap, h0, _, hl, hm, hel⟩
  · exact ⟨_, [], none, 0, h0, rfl, .inl ⟨rfl, _, _, rfl⟩, fun x hx => (nomatch hx), by simp⟩
  · have hmx : cap ≤ 9223372036854775807 := by unfold maxLen at hm; omega
    by_cases hz : len = 0
    · subst hz
      exact ⟨_, [], some a, cap, h0, rfl, .inl ⟨rfl, _, _, rfl⟩, fun x hx => (nomatch hx), by simp⟩
    · obtain ⟨f, hf⟩ : ∃ f : Nat → Fl, ∀ i, i < len → FlowAt w a i (f i).day (f i).cur (f i).amt := by
        classical
        have all : ∀ i, i < len → ∃ g : Fl, FlowAt w a i g.day g.cur g.amt := fun i hi => by
          obtain ⟨x, y, z, h⟩ := hel i hi
          exact ⟨⟨x, y, z⟩, h⟩
        refine ⟨fun i => if h : i < len then Classical.choose (all i h) else default, fun i hi => ?_⟩
        simp only [dif_pos hi]
        exact Classical.choose_spec (all i hi)
      have hL : ((List.range len).map f).length = len := by simp
      have hG : ∀ i, i < len → ((List.range len).map f).getD i default = f i := fun i hi => by
        rw [List.getD_eq_getElem?_getD, List.getElem?_map, List.getElem?_range hi]; rfl
      obtain ⟨b, o, spot⟩ := a
      have hspot : spot = none := by
        have := World.cell?_spot (hf 0 (by omega)).c0
        simpa [Addr.add] using this
      subst hspot
      refine ⟨_, (List.range len).map f, some ⟨b, o, none⟩, cap, by rw [hL]; exact h0, rfl, .inr ⟨by omega, b, o, cap, rfl, by omega, hmx, fun j hj => ?_⟩, fun x hx => ?_, by omega⟩
      · rw [hL] at hj
        rw [hG j hj]
        have q0 := (hf j hj).c0
        have q1 := (hf j hj).c1
        have q2 := (hf j hj).c2
        rw [Go.WideShapes.add_plain] at q0 q1 q2
        exact ⟨q0, q1, q2⟩
      · obtain ⟨i, hi, rfl⟩ := List.mem_map.1 hx
        exact (hf i (List.mem_range.1 hi)).b2

/-- What CashJoins's row lists is what cash's rows list (function 3). -/
theorem libW_cash3 {W : World} (h : laidMetH Tryd.prog Rows.cashJoinsRow.laid W) (hsh : W.ShapedOpen Tryd.prog) : LibW W ∧ CurW W := by
  rw [MakeChecks.laidMetH_plain _ _ _ (by kernel_rfl)] at h
  have h3 := laidMet.tail (laidMet.tail h)
  have h4 := laidMet.tail (laidMet.tail h3)
  have h5 := laidMet.tail h4
  exact ⟨⟨Lib.tabIs_of_head gPow typePow Tryd.underlying197 Tryd.underlying86 (by kernel_rfl) (by kernel_rfl) h3, max_of hsh, errVar h5 gSyn typeSyn, errVar h4 gRng typeRng⟩, curW_of (laidMet.tail h5)⟩

end Go.Proofs.YtadjhofomabbmaaDoor

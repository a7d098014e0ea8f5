/-
  What a law's frame tells of a slice of calls of an agenda that came in.
-/
import Derived.Test.YtkfcaafjnolhgaaFrameA
import Derived.Test.YtkfcaafjnolhgaaAhB
import Derived.ChangeSame
import Derived.Deep.Strs
import Derived.DataReads
import Derived.DataElems
namespace Go.Proofs.Ytkfcaafjnolhgaa
open Go.ChangeShapes Go.WideShapes Go.ChangeAt Go.RowKit
set_option linter.unusedVariables false

theorem cells_intB : Try.prog.cellsOf 3 = 1 := by kernel_rfl
set_option maxRecDepth 100000 in
/-- A slice of calls that came in: nil, or a row of them. -/
theorem open_ops11 {H : Type} {enc : TypeId × Value → H} {w : World} {base : Nat} {spare : Nat → Bool} {held : Bool} {fuel : Nat} {cs : List Value} {x : DataW H × List MemPlace}
    (h : DataW.trod enc Try.prog w base spare held fuel 22 cs = some x) : ∃ (v : Value) (L : List Cl), cs = [v] ∧ SlCl w v L := by
  rcases DataW.trod_slice Try.underlying22 h with h0 | ⟨a, len, cap, elems, rest, n, _, rfl, rfl, hb, hl, hm, hlen, hel, hsp, hns⟩
  · exact ⟨_, [], h0.1, .inl ⟨rfl, _, _, rfl⟩, fun p hp => absurd hp (Nat.not_lt_zero _)⟩
  · have all : ∀ i, i < len → ∃ t : Cl, (w.cell? (a.add (i * 3)) = some (.int .i64 t.k) ∧ w.cell? (a.add (i * 3 + 1)) = some (.int .i64 t.d) ∧ w.cell? (a.add (i * 3 + 2)) = some (.int .i64 t.t)) ∧ (I64 t.k ∧ I64 t.d ∧ I64 t.t) := fun i hi => by
      have hE := hel i hi
      rw [cells_op11, List.getElem?_eq_getElem (by omega)] at hE
      obtain ⟨cs', hcs, hy⟩ := Option.bind_eq_some_iff.1 hE
      obtain ⟨_, hl3, hc⟩ := World.cells?_some hcs
      obtain ⟨y0, y1, y2, m, _, _, h0, h1, h2⟩ := Go.Deep.trod_struct3 Try.underlying36 hy
      obtain ⟨x0, e0, _, w0⟩ := DataW.trod_int Try.underlying3 h0
      obtain ⟨x1, e1, _, w1⟩ := DataW.trod_int Try.underlying3 h1
      obtain ⟨x2, e2, _, w2⟩ := DataW.trod_int Try.underlying3 h2
      change List.take (Try.prog.cellsOf 3) (List.drop 0 cs') = _ at e0
      change List.take (Try.prog.cellsOf 3) (List.drop 1 cs') = _ at e1
      change List.take (Try.prog.cellsOf 3) (List.drop 2 cs') = _ at e2
      rw [cells_intB] at e0 e1 e2
      have g : ∀ (j : Nat) (v : Value), List.take 1 (List.drop j cs') = [v] → cs'[j]? = some v := fun j v e => by
        have := congrArg (·[0]?) e
        simpa [List.getElem?_take, List.getElem?_drop] using this
      have q0 := (hc 0 (by omega)).trans (g 0 _ e0)
      have q1 := (hc 1 (by omega)).trans (g 1 _ e1)
      have q2 := (hc 2 (by omega)).trans (g 2 _ e2)
      rw [Addr.add_add] at q0 q1 q2
      exact ⟨⟨x0, x1, x2⟩, ⟨q0, q1, q2⟩, bounds_i64 w0, bounds_i64 w1, bounds_i64 w2⟩
    have hmx : cap ≤ 9223372036854775807 := by unfold maxLen at hm; omega
    by_cases hz : len = 0
    · subst hz
      exact ⟨_, [], rfl, .inl ⟨rfl, _, _, rfl⟩, fun p hp => absurd hp (Nat.not_lt_zero _)⟩
    · obtain ⟨f, hf⟩ : ∃ f : Nat → Cl, ∀ i (hi : i < len), (w.cell? (a.add (i * 3)) = some (.int .i64 (f i).k) ∧ w.cell? (a.add (i * 3 + 1)) = some (.int .i64 (f i).d) ∧ w.cell? (a.add (i * 3 + 2)) = some (.int .i64 (f i).t)) ∧ (I64 (f i).k ∧ I64 (f i).d ∧ I64 (f i).t) := by
        classical
        refine ⟨fun i => if h : i < len then Classical.choose (all i h) else default, fun i hi => ?_⟩
        simp only [dif_pos hi]
        exact Classical.choose_spec (all i hi)
      have hL : ((List.range len).map f).length = len := by simp
      have hG : ∀ i, i < len → ((List.range len).map f).getD i default = f i := fun i hi => by
        rw [List.getD_eq_getElem?_getD, List.getElem?_map, List.getElem?_range hi]; rfl
      obtain ⟨b, o, spot⟩ := a
      have hspot : spot = none := by
        have := World.cell?_spot (hf 0 (by omega)).1.1
        simpa [Addr.add] using this
      subst hspot
      refine ⟨_, (List.range len).map f, rfl, .inr ⟨by omega, b, o, cap, by rw [hL], by omega, hmx, fun j hj i c hi hc => ?_⟩, fun j hj => ?_⟩
      · rw [hL] at hj
        rw [hG j hj] at hc
        obtain ⟨⟨q0, q1, q2⟩, _⟩ := hf j hj
        rw [Go.WideShapes.add_plain] at q0 q1 q2
        rcases (show i = 0 ∨ i = 1 ∨ i = 2 by omega) with rfl | rfl | rfl
        · simp [clL] at hc; subst hc; exact q0
        · simp [clL] at hc; subst hc; exact q1
        · simp [clL] at hc; subst hc; exact q2
      · rw [hL] at hj
        rw [hG j hj]
        exact (hf j hj).2

end Go.Proofs.Ytkfcaafjnolhgaa

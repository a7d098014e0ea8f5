/-
  What a law's frame tells of slices of facts that are told, and of arrays of numbers.
-/
import Derived.Test.YtgeneoamngfomaaGreatDoorRows
import Derived.Test.YtgeneoamngfomaaGreatDoorFa
import Derived.WalkKit
import Derived.ProofKit
import Derived.OpenShut
import Derived.ShutString
import Derived.ChangeOld
import Derived.ChangeSame
import Derived.Below
import Derived.Lib.SmallJoins
import Derived.Deep.Strs
import Derived.DataReads
import Derived.DataElems
namespace Go.Proofs.YtgeneoamngfomaaGreatDoor
open Go Go.ChangeShapes Go.WideShapes Go.ChangeAt Go.RowKit Go.Lib
set_option linter.unusedVariables false

theorem wfY {n : Int} (h : (Lit.int .i64 n).wf = true) : I64 n := bounds_i64 h
theorem cellsY_int : Tryz.prog.cellsOf 3 = 1 := by kernel_rfl
theorem cellsY_told : Tryz.prog.cellsOf 66 = 6 := by kernel_rfl
theorem takeY {α : Type} {l vs : List α} {a n j : Nat} {v : α} (h : (l.drop a).take n = vs) (hj : vs[j]? = some v) : l[a + j]? = some v := by
  rw [← h, List.getElem?_take, List.getElem?_drop] at hj
  split at hj
  · exact hj
  · cases hj
theorem trod_struct5 {H : Type} {enc : TypeId × Value → H} {P : Program} {w : World} {base : Nat} {spare : Nat → Bool} {held : Bool} {t : TypeId} {f0 f1 f2 f3 f4 : Field} {fuel : Nat} {cs : List Value} {x : DataW H × List MemPlace} (ht : P.underlying t = some (.struct #[f0, f1, f2, f3, f4])) (h : DataW.trod enc P w base spare held fuel t cs = some x) :
    ∃ y0 y1 y2 y3 y4 n, x.1 = .agg [y0.1, y1.1, y2.1, y3.1, y4.1] ∧ cs.length = P.cellsOf t ∧ DataW.trod enc P w base spare held n f0.type ((cs.drop f0.offset).take (P.cellsOf f0.type)) = some y0 ∧
      DataW.trod enc P w base spare held n f1.type ((cs.drop f1.offset).take (P.cellsOf f1.type)) = some y1 ∧ DataW.trod enc P w base spare held n f2.type ((cs.drop f2.offset).take (P.cellsOf f2.type)) = some y2 ∧
      DataW.trod enc P w base spare held n f3.type ((cs.drop f3.offset).take (P.cellsOf f3.type)) = some y3 ∧ DataW.trod enc P w base spare held n f4.type ((cs.drop f4.offset).take (P.cellsOf f4.type)) = some y4 := by
  obtain ⟨xs, n, _, rfl, hl, hlen, hf⟩ := DataW.trod_struct ht h
  match xs, hlen with
  | [y0, y1, y2, y3, y4], _ => exact ⟨y0, y1, y2, y3, y4, n, rfl, hl, by simpa using hf 0 f0 rfl, by simpa using hf 1 f1 rfl, by simpa using hf 2 f2 rfl, by simpa using hf 3 f3 rfl, by simpa using hf 4 f4 rfl⟩
set_option maxRecDepth 100000 in
/-- A fact's cells read as a fact. -/
theorem told_cells {H : Type} {W : World} {base : Nat} {sp : Nat → Bool} {held : Bool} {fuel : Nat} {enc : TypeId × Value → H} {cs : List Value} {x : DataW H × List MemPlace} (h : DataW.trod enc Tryz.prog W base sp held fuel 66 cs = some x) :
    ∃ t : Tol, cs[0]? = some (.bool t.c) ∧ cs[1]? = some (.int .i64 t.k) ∧ cs[2]? = some (.int .i64 t.d) ∧ cs[3]? = some (.int .i64 t.x) ∧ cs[4]? = some (.int .i64 t.y) ∧ cs[5]? = some (.int .i64 t.p) ∧ t.Ok := by
  obtain ⟨y0, y1, y2, y3, y4, n, _, _, h0, h1, h2, h3, h4⟩ := trod_struct5 Tryz.underlying66 h
  obtain ⟨b0, e0, _⟩ := DataW.trod_bool Tryz.underlying4 h0
  obtain ⟨x1, e1, _, w1⟩ := DataW.trod_int Tryz.underlying3 h1
  obtain ⟨x2, e2, _, w2⟩ := DataW.trod_int Tryz.underlying3 h2
  obtain ⟨z0, z1, m, _, _, g0, g1⟩ := trod_struct2 Tryz.underlying58 h3
  obtain ⟨x3, e3, _, w3⟩ := DataW.trod_int Tryz.underlying3 g0
  obtain ⟨x4, e4, _, w4⟩ := DataW.trod_int Tryz.underlying3 g1
  obtain ⟨x5, e5, _, w5⟩ := DataW.trod_int Tryz.underlying3 h4
  have hr2 : Tryz.prog.cellsOf 58 = 2 := by kernel_rfl
  have hi1 : Tryz.prog.cellsOf 3 = 1 := by kernel_rfl
  change List.take (Tryz.prog.cellsOf 3) (List.drop 0 (List.take (Tryz.prog.cellsOf 58) (List.drop 3 cs))) = _ at e3
  change List.take (Tryz.prog.cellsOf 3) (List.drop 1 (List.take (Tryz.prog.cellsOf 58) (List.drop 3 cs))) = _ at e4
  rw [hr2, hi1] at e3 e4
  refine ⟨⟨b0, x1, x2, x3, x4, x5⟩, takeY (a := 0) (j := 0) e0 rfl, takeY (a := 1) (j := 0) e1 rfl, takeY (a := 2) (j := 0) e2 rfl, ?_, ?_, takeY (a := 5) (j := 0) e5 rfl, wfY w1, wfY w2, wfY w3, wfY w4, wfY w5⟩
  · have q : (List.take 2 (List.drop 3 cs))[0 + 0]? = some (.int .i64 x3) := takeY (l := List.take 2 (List.drop 3 cs)) (a := 0) (n := 1) (j := 0) e3 rfl
    exact takeY (a := 3) (n := 2) (j := 0) rfl q
  · have q : (List.take 2 (List.drop 3 cs))[1 + 0]? = some (.int .i64 x4) := takeY (l := List.take 2 (List.drop 3 cs)) (a := 1) (n := 1) (j := 0) e4 rfl
    exact takeY (a := 3) (n := 2) (j := 1) rfl q

set_option maxRecDepth 100000 in
/-- A slice of facts that are told, that came in. -/
theorem open_told {H : Type} {enc : TypeId × Value → H} {w : World} {base : Nat} {spare : Nat → Bool} {held : Bool} {fuel : Nat} {cs : List Value} {x : DataW H × List MemPlace}
    (h : DataW.trod enc Tryz.prog w base spare held fuel 23 cs = some x) : ∃ (v : Value) (L : List Tol), cs = [v] ∧ SlTol w v L ∧ ∀ j, j < L.length → (L.getD j default).Ok := by
  rcases DataW.trod_slice Tryz.underlying23 h with h0 | ⟨a, len, cap, elems, rest, n, _, rfl, rfl, hb, hl, hm, hlen, hel, hsp, hns⟩
  · exact ⟨_, [], h0.1, .inl ⟨rfl, _, _, rfl⟩, fun p hp => absurd hp (Nat.not_lt_zero _)⟩
  · have all : ∀ i, i < len → ∃ t : Tol, (w.cell? (a.add (i * 6)) = some (.bool t.c) ∧ w.cell? (a.add (i * 6 + 1)) = some (.int .i64 t.k) ∧ w.cell? (a.add (i * 6 + 2)) = some (.int .i64 t.d) ∧ w.cell? (a.add (i * 6 + 3)) = some (.int .i64 t.x) ∧ w.cell? (a.add (i * 6 + 4)) = some (.int .i64 t.y) ∧ w.cell? (a.add (i * 6 + 5)) = some (.int .i64 t.p)) ∧ t.Ok := fun i hi => by
      have hE := hel i hi
      rw [cellsY_told, List.getElem?_eq_getElem (by omega)] at hE
      obtain ⟨cs', hcs, hy⟩ := Option.bind_eq_some_iff.1 hE
      obtain ⟨_, hl3, hc⟩ := World.cells?_some hcs
      obtain ⟨t, g0, g1, g2, g3, g4, g5, hn⟩ := told_cells hy
      have q0 := (hc 0 (by omega)).trans g0
      have q1 := (hc 1 (by omega)).trans g1
      have q2 := (hc 2 (by omega)).trans g2
      have q3 := (hc 3 (by omega)).trans g3
      have q4 := (hc 4 (by omega)).trans g4
      have q5 := (hc 5 (by omega)).trans g5
      rw [Addr.add_add] at q0 q1 q2 q3 q4 q5
      exact ⟨t, ⟨q0, q1, q2, q3, q4, q5⟩, hn⟩
    have hmx : cap ≤ 9223372036854775807 := by unfold maxLen at hm; omega
    by_cases hz : len = 0
    · subst hz
      exact ⟨_, [], rfl, .inl ⟨rfl, _, _, rfl⟩, fun p hp => absurd hp (Nat.not_lt_zero _)⟩
    · obtain ⟨f, hf⟩ : ∃ f : Nat → Tol, ∀ i (hi : i < len), (w.cell? (a.add (i * 6)) = some (.bool (f i).c) ∧ w.cell? (a.add (i * 6 + 1)) = some (.int .i64 (f i).k) ∧ w.cell? (a.add (i * 6 + 2)) = some (.int .i64 (f i).d) ∧ w.cell? (a.add (i * 6 + 3)) = some (.int .i64 (f i).x) ∧ w.cell? (a.add (i * 6 + 4)) = some (.int .i64 (f i).y) ∧ w.cell? (a.add (i * 6 + 5)) = some (.int .i64 (f i).p)) ∧ (f i).Ok := by
        classical
        refine ⟨fun i => if h : i < len then Classical.choose (all i h) else default, fun i hi => ?_⟩
        simp only [dif_pos hi]
        exact Classical.choose_spec (all i hi)
      have hL : ((List.range len).map f).length = len := by simp
      have hG : ∀ i, i < len → ((List.range len).map f).getD i default = f i := fun i hi => by
        rw [List.getD_eq_getElem?_getD, List.getElem?_map, List.getElem?_range hi]; rfl
      obtain ⟨b, o, spot⟩ := a
      have hspot : spot = none := by
        have := World.cell?_spot (hf 0 (by omega)).1.1
        simpa [Addr.add] using this
      subst hspot
      refine ⟨_, (List.range len).map f, rfl, .inr ⟨by omega, b, o, cap, by rw [hL], by omega, hmx, fun j hj => ?_⟩, fun p hp => ?_⟩
      · rw [hL] at hj
        rw [hG j hj]
        obtain ⟨⟨q0, q1, q2, q3, q4, q5⟩, _⟩ := hf j hj
        rw [Go.WideShapes.add_plain] at q0 q1 q2 q3 q4 q5
        exact ⟨q0, q1, q2, q3, q4, q5⟩
      · rw [hL] at hp
        rw [hG p hp]
        exact (hf p hp).2


end Go.Proofs.YtgeneoamngfomaaGreatDoor

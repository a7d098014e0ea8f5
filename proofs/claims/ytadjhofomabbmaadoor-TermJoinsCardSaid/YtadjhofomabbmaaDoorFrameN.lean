/-
  Slices of nodes that came in.
-/
import Derived.Test.YtadjhofomabbmaaDoorFrameK
namespace Go.Proofs.YtadjhofomabbmaaDoor
open Go Go.ChangeShapes Go.WideShapes Go.ChangeAt Go.RowKit Go.Lib
set_option linter.unusedVariables false

theorem cells_node : Tryd.prog.cellsOf 55 = 5 := by kernel_rfl
theorem wf_i64T {n : Int} (h : (Lit.int .i64 n).wf = true) : I64T n := bounds_i64 h
set_option maxRecDepth 100000 in
/-- A node's cells read as a node. -/
theorem node_cells {H : Type} {W : World} {base : Nat} {sp : Nat → Bool} {held : Bool} {fuel : Nat} {enc : TypeId × Value → H} {cs : List Value} {x : DataW H × List MemPlace} (h : DataW.trod enc Tryd.prog W base sp held fuel 55 cs = some x) :
    ∃ n : Nd, cs[0]? = some (.int .i64 n.op) ∧ cs[1]? = some (.int .i64 n.a) ∧ cs[2]? = some (.int .i64 n.b) ∧ cs[3]? = some (.int .i64 n.num) ∧ cs[4]? = some (.int .i64 n.den) ∧ I64T n.num ∧ I64T n.den ∧ I64T n.op ∧ I64T n.a ∧ I64T n.b := by
  obtain ⟨y0, y1, y2, y3, n, _, _, h0, h1, h2, h3⟩ := trod_struct4 Tryd.underlying55 h
  obtain ⟨x0, e0, _, w0⟩ := DataW.trod_int Tryd.underlying3 h0
  obtain ⟨x1, e1, _, w1⟩ := DataW.trod_int Tryd.underlying3 h1
  obtain ⟨x2, e2, _, w2⟩ := DataW.trod_int Tryd.underlying3 h2
  obtain ⟨z0, z1, m, _, _, g0, g1⟩ := trod_struct2 Tryd.underlying53 h3
  obtain ⟨x3, e3, _, w3⟩ := DataW.trod_int Tryd.underlying3 g0
  obtain ⟨x4, e4, _, w4⟩ := DataW.trod_int Tryd.underlying3 g1
  have hr2 : Tryd.prog.cellsOf 53 = 2 := by kernel_rfl
  have hi1 : Tryd.prog.cellsOf 3 = 1 := by kernel_rfl
  change List.take (Tryd.prog.cellsOf 3) (List.drop 0 (List.take (Tryd.prog.cellsOf 53) (List.drop 3 cs))) = _ at e3
  change List.take (Tryd.prog.cellsOf 3) (List.drop 1 (List.take (Tryd.prog.cellsOf 53) (List.drop 3 cs))) = _ at e4
  rw [hr2, hi1] at e3 e4
  refine ⟨⟨x0, x1, x2, x3, x4⟩, take_at (a := 0) (j := 0) e0 rfl, take_at (a := 1) (j := 0) e1 rfl, take_at (a := 2) (j := 0) e2 rfl, ?_, ?_, wf_i64T w3, wf_i64T w4, wf_i64T w0, wf_i64T w1, wf_i64T w2⟩
  · have q : (List.take 2 (List.drop 3 cs))[0 + 0]? = some (.int .i64 x3) := take_at (l := List.take 2 (List.drop 3 cs)) (a := 0) (n := 1) (j := 0) e3 rfl
    exact take_at (a := 3) (n := 2) (j := 0) rfl q
  · have q : (List.take 2 (List.drop 3 cs))[1 + 0]? = some (.int .i64 x4) := take_at (l := List.take 2 (List.drop 3 cs)) (a := 1) (n := 1) (j := 0) e4 rfl
    exact take_at (a := 3) (n := 2) (j := 1) rfl q

/-- All numbers of a row's nodes fit. -/
def FitT (t : List Nd) : Prop := ∀ p, p < t.length → I64T (t.getD p default).op ∧ I64T (t.getD p default).a ∧ I64T (t.getD p default).b
set_option maxRecDepth 100000 in
theorem open_nodes {H : Type} {enc : TypeId × Value → H} {w : World} {base : Nat} {spare : Nat → Bool} {held : Bool} {fuel : Nat} {cs : List Value} {x : DataW H × List MemPlace}
    (h : DataW.trod enc Tryd.prog w base spare held fuel 37 cs = some x) : ∃ (v : Value) (t : List Nd) (a : Option Addr) (cap : Nat), cs = [v] ∧ v = .slice a t.length cap ∧ SlT w v t ∧ BdT t ∧ FitT t ∧ t.length ≤ 9223372036854775807 := by
  rcases DataW.trod_slice Tryd.underlying37 h with h0 | ⟨a, len, cap, elems, rest, n, _, rfl, rfl, hb, hl, hm, hlen, hel, hsp, hns⟩
  · exact ⟨_, [], none, 0, h0.1, rfl, .inl ⟨rfl, _, _, rfl⟩, fun p hp => absurd hp (Nat.not_lt_zero _), fun p hp => absurd hp (Nat.not_lt_zero _), by simp⟩
  · have all : ∀ i, i < len → ∃ nd : Nd, (w.cell? (a.add (i * 5)) = some (.int .i64 nd.op) ∧ w.cell? (a.add (i * 5 + 1)) = some (.int .i64 nd.a) ∧ w.cell? (a.add (i * 5 + 2)) = some (.int .i64 nd.b) ∧ w.cell? (a.add (i * 5 + 3)) = some (.int .i64 nd.num) ∧ w.cell? (a.add (i * 5 + 4)) = some (.int .i64 nd.den)) ∧ I64T nd.num ∧ I64T nd.den ∧ I64T nd.op ∧ I64T nd.a ∧ I64T nd.b := fun i hi => by
      have hE := hel i hi
      rw [cells_node, List.getElem?_eq_getElem (by omega)] at hE
      obtain ⟨cs', hcs, hy⟩ := Option.bind_eq_some_iff.1 hE
      obtain ⟨_, hl3, hc⟩ := World.cells?_some hcs
      obtain ⟨nd, g0, g1, g2, g3, g4, hn⟩ := node_cells hy
      have q0 := (hc 0 (by omega)).trans g0
      have q1 := (hc 1 (by omega)).trans g1
      have q2 := (hc 2 (by omega)).trans g2
      have q3 := (hc 3 (by omega)).trans g3
      have q4 := (hc 4 (by omega)).trans g4
      rw [Addr.add_add] at q0 q1 q2 q3 q4
      exact ⟨nd, ⟨q0, q1, q2, q3, q4⟩, hn⟩
    have hmx : cap ≤ 9223372036854775807 := by unfold maxLen at hm; omega
    by_cases hz : len = 0
    · subst hz
      exact ⟨_, [], some a, cap, rfl, rfl, .inl ⟨rfl, _, _, rfl⟩, fun p hp => absurd hp (Nat.not_lt_zero _), fun p hp => absurd hp (Nat.not_lt_zero _), by simp⟩
    · obtain ⟨f, hf⟩ : ∃ f : Nat → Nd, ∀ i (hi : i < len), (w.cell? (a.add (i * 5)) = some (.int .i64 (f i).op) ∧ w.cell? (a.add (i * 5 + 1)) = some (.int .i64 (f i).a) ∧ w.cell? (a.add (i * 5 + 2)) = some (.int .i64 (f i).b) ∧ w.cell? (a.add (i * 5 + 3)) = some (.int .i64 (f i).num) ∧ w.cell? (a.add (i * 5 + 4)) = some (.int .i64 (f i).den)) ∧ I64T (f i).num ∧ I64T (f i).den ∧ I64T (f i).op ∧ I64T (f i).a ∧ I64T (f i).b := by
        classical
        refine ⟨fun i => if h : i < len then Classical.choose (all i h) else default, fun i hi => ?_⟩
        simp only [dif_pos hi]
        exact Classical.choose_spec (all i hi)
      have hL : ((List.range len).map f).length = len := by simp
      have hG : ∀ i, i < len → ((List.range len).map f).getD i default = f i := fun i hi => by
        rw [List.getD_eq_getElem?_getD, List.getElem?_map, List.getElem?_range hi]; rfl
      obtain ⟨b, o, spot⟩ := a
      have hspot : spot = none := by
        have := World.cell?_spot (hf 0 (by omega)).1.1
        simpa [Addr.add] using this
      subst hspot
      refine ⟨_, (List.range len).map f, some ⟨b, o, none⟩, cap, by rw [hL], rfl, .inr ⟨by omega, b, o, cap, rfl, by omega, hmx, fun j hj => ?_⟩, fun p hp => ?_, fun p hp => ?_, by omega⟩
      · rw [hL] at hj
        rw [hG j hj]
        obtain ⟨⟨q0, q1, q2, q3, q4⟩, _⟩ := hf j hj
        rw [Go.WideShapes.add_plain] at q0 q1 q2 q3 q4
        exact ⟨q0, q1, q2, q3, q4⟩
      · rw [hL] at hp
        rw [hG p hp]
        obtain ⟨_, r0, r1, _⟩ := hf p hp
        exact ⟨r0, r1⟩
      · rw [hL] at hp
        rw [hG p hp]
        obtain ⟨_, _, _, r2, r3, r4⟩ := hf p hp
        exact ⟨r2, r3, r4⟩

end Go.Proofs.YtadjhofomabbmaaDoor

/-
  A node by value, and slices of slices of nodes, that came in.
-/
import Derived.Test.YtadjhofomabbmaaDoorFrameN
import Derived.Test.YtadjhofomabbmaaDoorJnA
namespace Go.Proofs.YtadjhofomabbmaaDoor
open Go Go.ChangeShapes Go.WideShapes Go.ChangeAt Go.RowKit Go.Lib
set_option linter.unusedVariables false

theorem node_array {cs : Array Value} {n : Nd} (h : cs.size = 5) (h0 : cs.toList[0]? = some (.int .i64 n.op)) (h1 : cs.toList[1]? = some (.int .i64 n.a)) (h2 : cs.toList[2]? = some (.int .i64 n.b)) (h3 : cs.toList[3]? = some (.int .i64 n.num)) (h4 : cs.toList[4]? = some (.int .i64 n.den)) : cs = ndC n := by
  refine Array.ext (by rw [h]; rfl) fun i hi hj => ?_
  have hi' : i < 5 := by omega
  match i, hi' with
  | 0, _ => simpa [ndC, hi] using h0
  | 1, _ => simpa [ndC, hi] using h1
  | 2, _ => simpa [ndC, hi] using h2
  | 3, _ => simpa [ndC, hi] using h3
  | 4, _ => simpa [ndC, hi] using h4
set_option maxRecDepth 100000 in
/-- A node that came in. -/
theorem open_node {H : Type} {enc : TypeId × Value → H} {w : World} {base b0 : Nat} {spare : Nat → Bool} {held : Bool} {r : Reach} {v : Value} {d : DataW H} {ps : List MemPlace}
    (hv : Value.okWide Tryd.prog w r b0 55 v) (h : DataW.Trod enc Tryd.prog w base spare held 55 v d ps) :
    ∃ n : Nd, v = .agg (ndC n) ∧ I64T n.num ∧ I64T n.den := by
  have hv2 : ∃ cs, v = .agg cs ∧ cs.size = Tryd.prog.cellsOf 55 := by
    unfold Value.okWide at hv
    rw [Tryd.underlying55] at hv
    obtain ⟨cs, h1, h2, _⟩ := hv
    exact ⟨cs, h1, h2⟩
  obtain ⟨cs, rfl, hsz⟩ := hv2
  obtain ⟨fuel, hf⟩ := h
  obtain ⟨n, g0, g1, g2, g3, g4, hn, hd, _⟩ := node_cells hf
  exact ⟨n, by rw [node_array (hsz.trans cells_node) (by simpa [Value.cells] using g0) (by simpa [Value.cells] using g1) (by simpa [Value.cells] using g2) (by simpa [Value.cells] using g3) (by simpa [Value.cells] using g4)], hn, hd⟩

theorem cells_nodes : Tryd.prog.cellsOf 37 = 1 := by kernel_rfl
set_option maxRecDepth 100000 in
theorem open_rows {H : Type} {enc : TypeId × Value → H} {w : World} {base : Nat} {spare : Nat → Bool} {held : Bool} {fuel : Nat} {cs : List Value} {x : DataW H × List MemPlace}
    (h : DataW.trod enc Tryd.prog w base spare held fuel 57 cs = some x) : ∃ (v : Value) (L : List (List Nd)) (a : Option Addr) (cap : Nat), cs = [v] ∧ v = .slice a L.length cap ∧ SlS w a cap L ∧ (∀ j, j < L.length → BdT (L.getD j [])) ∧ (∀ j, j < L.length → (L.getD j []).length ≤ 9223372036854775807) ∧ L.length ≤ 9223372036854775807 := by
  rcases DataW.trod_slice Tryd.underlying57 h with h0 | ⟨a, len, cap, elems, rest, n, _, rfl, rfl, hb, hl, hm, hlen, hel, hsp, hns⟩
  · exact ⟨_, [], none, 0, h0.1, rfl, fun hp => absurd hp (Nat.not_lt_zero _), fun p hp => absurd hp (Nat.not_lt_zero _), fun p hp => absurd hp (Nat.not_lt_zero _), by simp⟩
  · have all : ∀ i, i < len → ∃ t : List Nd, (∃ v, w.cell? (a.add i) = some v ∧ SlT w v t) ∧ BdT t ∧ t.length ≤ 9223372036854775807 := fun i hi => by
      have hE := hel i hi
      rw [cells_nodes, List.getElem?_eq_getElem (by omega)] at hE
      obtain ⟨cs', hcs, hy⟩ := Option.bind_eq_some_iff.1 hE
      obtain ⟨_, hl3, hc⟩ := World.cells?_some hcs
      obtain ⟨v, t, a', cap', hcv, hv, hs, hbd, _, hlt⟩ := open_nodes hy
      have q0 := hc 0 (by omega)
      rw [hcv, Addr.add_add, Nat.mul_one, Nat.add_zero] at q0
      exact ⟨t, ⟨v, q0, hs⟩, hbd, hlt⟩
    have hmx : cap ≤ 9223372036854775807 := by unfold maxLen at hm; omega
    obtain ⟨f, hf⟩ : ∃ f : Nat → List Nd, ∀ i (hi : i < len), (∃ v, w.cell? (a.add i) = some v ∧ SlT w v (f i)) ∧ BdT (f i) ∧ (f i).length ≤ 9223372036854775807 := by
      classical
      refine ⟨fun i => if h : i < len then Classical.choose (all i h) else [], fun i hi => ?_⟩
      simp only [dif_pos hi]
      exact Classical.choose_spec (all i hi)
    have hL : ((List.range len).map f).length = len := by simp
    have hG : ∀ i, i < len → ((List.range len).map f).getD i [] = f i := fun i hi => by
      rw [List.getD_eq_getElem?_getD, List.getElem?_map, List.getElem?_range hi]; rfl
    refine ⟨_, (List.range len).map f, some a, cap, by rw [hL], rfl, fun h0 => ?_, fun j hj => ?_, fun j hj => ?_, by omega⟩
    · rw [hL] at h0 ⊢
      obtain ⟨b, o, spot⟩ := a
      obtain ⟨v0, hv0, _⟩ := (hf 0 h0).1
      have hspot : spot = none := by
        have := World.cell?_spot hv0
        simpa [Addr.add] using this
      subst hspot
      refine ⟨b, o, rfl, hl, hmx, fun j hj => ?_⟩
      rw [hG j hj]
      obtain ⟨v, q0, q1⟩ := (hf j hj).1
      rw [Go.WideShapes.add_plain] at q0
      exact ⟨v, q0, q1⟩
    · rw [hL] at hj
      rw [hG j hj]; exact (hf j hj).2.1
    · rw [hL] at hj
      rw [hG j hj]; exact (hf j hj).2.2

theorem bd_iff {t : List Nd} : BdT t ↔ ∀ m ∈ t, I64T m.num ∧ I64T m.den := by
  constructor
  · intro h m hm
    obtain ⟨i, hi, rfl⟩ := List.getElem_of_mem hm
    have := h i hi
    rw [List.getD_eq_getElem?_getD, List.getElem?_eq_getElem hi] at this
    exact this
  · intro h p hp
    rw [List.getD_eq_getElem?_getD, List.getElem?_eq_getElem hp]
    exact h _ (List.getElem_mem hp)
theorem bd_rows {n : Nd} {L : List (List Nd)} (hn : I64T n.num ∧ I64T n.den) (h : ∀ j, j < L.length → BdT (L.getD j [])) : BdT (n :: L.flatten) := by
  rw [bd_iff]
  intro m hm
  rcases List.mem_cons.1 hm with rfl | hm
  · exact hn
  · obtain ⟨t, ht, hmt⟩ := List.mem_flatten.1 hm
    obtain ⟨i, hi, rfl⟩ := List.getElem_of_mem ht
    have := h i hi
    rw [List.getD_eq_getElem?_getD, List.getElem?_eq_getElem hi] at this
    exact bd_iff.1 this m hmt

end Go.Proofs.YtadjhofomabbmaaDoor

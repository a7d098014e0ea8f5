/-
  What a law's frame tells where the table of ops is listed; slices of nodes that came in.
-/
import Derived.Test.YtgeneoamngfomaaGreatDoorRows
import Derived.Test.YtgeneoamngfomaaGreatDoorTrm
import Derived.ProofKit
import Derived.OpenShut
import Derived.ShutString
import Derived.ChangeOld
import Derived.ChangeSame
import Derived.LaidMore
import Derived.Stop.Joined
import Derived.Lib.LaidTab
import Derived.Lib.SmallJoins
import Derived.MakeChecks
import Derived.Deep.Strs
import Derived.DataReads
import Derived.DataElems
namespace Go.Proofs.YtgeneoamngfomaaGreatDoor
open Go Go.ChangeShapes Go.WideShapes Go.ChangeAt Go.RowKit Go.Lib
set_option linter.unusedVariables false

/-- A condition on what variables hold, and the program's shape. -/
theorem shaped_bothT {H : Type} {enc : TypeId × Value → H} {a : Assume} {C : Checked} {os : Os} {f : FuncId} {fn : Func} {s : ChangeSpec} {conds : List PathCond} {apart fresh handsOn again : Bool} {X : World → Array Value → Prop}
    (hX : ∀ (w w' : World) (args : Array Value), w.heap = w'.heap → X w args → X w' args)
    (own : ownKnob C.prog.godebug = none) (started : os.Started) (noInit : C.prog.inits.idxOf? f = none) (hfn : C.prog.funcs[f]? = some fn)
    (witness : ∃ (w : World) (tape : Tape) (i : Input), w.os = os ∧ (w.forCall tape i).Shaped C.prog ∧ i.vars = [] ∧ Input.okWide C.prog (w.forCall tape i) .any w.heap.size f i ∧
      ((s.pre enc C.prog fn conds apart (w.forCall tape i).memory i.args ∧ X (w.forCall tape i).memory i.args) ∧ sizedMet enc C.prog fn (OpenSpec.ofChange s) apart (w.forCall tape i).memory i.args) ∧ a.holds C.prog (lone (Frame.enter C.prog f i.args .normal) [] (w.forCall tape i)))
    (contract : ∀ (W : World) (base : Nat) (args : Array Value) (ds gs : List (DataW H)) (before : List MemPlace),
      (∀ (j : Nat) t v, fn.params[j]? = some t → args[j]? = some v → Value.okWide C.prog W .any base t v) →
      DataW.Whole enc C.prog fn.params.toList s.vars apart W args.toList ds gs before →
      conds.all (PathCond.test C.prog ⟨fn.params.toList, ds, s.plain.varTypes C.prog, gs⟩) = true →
      X W args →
      Calls C.prog f args W fun e W' => ∃ v, e = .returned v ∧ s.post enc C.prog fn apart fresh handsOn again W args v W') :
    ReturnsInHanded a C os f .any (fun w args => (s.pre enc C.prog fn conds apart w args ∧ X w args) ∧ sizedMet enc C.prog fn (OpenSpec.ofChange s) apart w args) (s.post enc C.prog fn apart fresh handsOn again) := by
  refine returnsInHanded_of_calls own started noInit witness ?_
  intro w tape i _ hsh _ hok hpre hholds
  obtain ⟨_, _, _, fn', hfn', _, _, _, _, hval⟩ := hok
  have e : fn' = fn := Option.some.inj (hfn'.symm.trans hfn)
  subst e
  obtain ⟨⟨⟨ds, gs, before, hw, hc⟩, hx⟩, hz⟩ := hpre
  have hw' := DataW.Whole.of_heap (w' := w.forCall tape i) (by rfl) hw
  refine (contract (w.forCall tape i) w.heap.size i.args ds gs before hval hw' hc (hX _ _ _ (by rfl) hx)).mono fun e W' ⟨v, he, hp⟩ => ?_
  subst he
  exact ChangeSpec.post_blind hp

theorem gKnd : Tryz.prog.globalNamed "chattel/term.kinds" = some 0 := by kernel_rfl
theorem typeKnd : (Tryz.prog.globals[0]?).map (·.type) = some 241 := by kernel_rfl
def kindRow (k : Nat) : DataW Unit := .agg [.lit (.int .i64 (mkN k)), Lib.tabData .i64 [(kdC k 0 : Int), kdC k 1, kdC k 2, kdC k 3], Lib.tabData .i64 [(maN k : Int), mbN k], .lit (.bool (vlB k))]
theorem knd_list {ls : List (DataW Unit)} (h : (Rows.laid_chattel_term_kinds : DataW Unit) = .agg ls) (k : Nat) (hk : k < 18) : ls[k]? = some (kindRow k) := by
  obtain rfl := DataW.agg.inj h
  rcases k with _ | k
  · rfl
  rcases k with _ | k
  · rfl
  rcases k with _ | k
  · rfl
  rcases k with _ | k
  · rfl
  rcases k with _ | k
  · rfl
  rcases k with _ | k
  · rfl
  rcases k with _ | k
  · rfl
  rcases k with _ | k
  · rfl
  rcases k with _ | k
  · rfl
  rcases k with _ | k
  · rfl
  rcases k with _ | k
  · rfl
  rcases k with _ | k
  · rfl
  rcases k with _ | k
  · rfl
  rcases k with _ | k
  · rfl
  rcases k with _ | k
  · rfl
  rcases k with _ | k
  · rfl
  rcases k with _ | k
  · rfl
  rcases k with _ | k
  · rfl
  omega
theorem trod_struct4 {H : Type} {enc : TypeId × Value → H} {P : Program} {w : World} {base : Nat} {spare : Nat → Bool} {held : Bool} {t : TypeId} {f0 f1 f2 f3 : Field} {fuel : Nat} {cs : List Value} {x : DataW H × List MemPlace} (ht : P.underlying t = some (.struct #[f0, f1, f2, f3])) (h : DataW.trod enc P w base spare held fuel t cs = some x) :
    ∃ y0 y1 y2 y3 n, x.1 = .agg [y0.1, y1.1, y2.1, y3.1] ∧ cs.length = P.cellsOf t ∧ DataW.trod enc P w base spare held n f0.type ((cs.drop f0.offset).take (P.cellsOf f0.type)) = some y0 ∧
      DataW.trod enc P w base spare held n f1.type ((cs.drop f1.offset).take (P.cellsOf f1.type)) = some y1 ∧ DataW.trod enc P w base spare held n f2.type ((cs.drop f2.offset).take (P.cellsOf f2.type)) = some y2 ∧
      DataW.trod enc P w base spare held n f3.type ((cs.drop f3.offset).take (P.cellsOf f3.type)) = some y3 := by
  obtain ⟨xs, n, _, rfl, hl, hlen, hf⟩ := DataW.trod_struct ht h
  match xs, hlen with
  | [y0, y1, y2, y3], _ => exact ⟨y0, y1, y2, y3, n, rfl, hl, by simpa using hf 0 f0 rfl, by simpa using hf 1 f1 rfl, by simpa using hf 2 f2 rfl, by simpa using hf 3 f3 rfl⟩
theorem take_at {α : Type} {l vs : List α} {a n j : Nat} {v : α} (h : (l.drop a).take n = vs) (hj : vs[j]? = some v) : l[a + j]? = some v := by
  rw [← h, List.getElem?_take, List.getElem?_drop] at hj
  split at hj
  · exact hj
  · cases hj

theorem kind_cells {W : World} {base : Nat} {sp : Nat → Bool} {held : Bool} {fuel : Nat} {enc : TypeId × Value → Unit} {cs : List Value} {x : DataW Unit × List MemPlace} {k : Nat} (h : DataW.trod enc Tryz.prog W base sp held fuel 216 cs = some x) (hx : x.1 = kindRow k) :
    cs[0]? = some (.int .i64 (mkN k)) ∧ cs[1]? = some (.int .i64 (kdC k 0)) ∧ cs[2]? = some (.int .i64 (kdC k 1)) ∧ cs[3]? = some (.int .i64 (kdC k 2)) ∧ cs[4]? = some (.int .i64 (kdC k 3)) ∧ cs[5]? = some (.int .i64 (maN k)) ∧ cs[6]? = some (.int .i64 (mbN k)) ∧ cs[7]? = some (.bool (vlB k)) := by
  obtain ⟨y0, y1, y2, y3, n, ey, _, h0, h1, h2, h3⟩ := trod_struct4 Tryz.underlying216 h
  rw [hx] at ey
  have hls := DataW.agg.inj ey
  injection hls with a0 hls
  injection hls with a1 hls
  injection hls with a2 hls
  injection hls with a3 _
  obtain ⟨z, e0, e1, _⟩ := DataW.trod_int Tryz.underlying3 h0
  obtain ⟨zb, b0, rfl, _⟩ := DataW.trod_bool Tryz.underlying4 h3
  obtain ⟨d1, p1⟩ := y1
  obtain ⟨d2, p2⟩ := y2
  dsimp only at a1 a2
  subst a1 a2
  have t1 := Lib.cells_of_tab Tryz.underlying213 Tryz.underlying3 (by kernel_rfl) (by kernel_rfl) h1
  have t2 := Lib.cells_of_tab Tryz.underlying214 Tryz.underlying3 (by kernel_rfl) (by kernel_rfl) h2
  rw [e1] at a0
  change DataW.lit (Lit.bool (vlB k)) = DataW.lit (Lit.bool zb) at a3
  have hz := (Lit.int.inj (DataW.lit.inj a0)).2
  have hb := Lit.bool.inj (DataW.lit.inj a3)
  subst hz hb
  exact ⟨take_at (a := 0) (j := 0) e0 rfl, take_at (a := 1) (j := 0) t1 rfl, take_at (a := 1) (j := 1) t1 rfl, take_at (a := 1) (j := 2) t1 rfl, take_at (a := 1) (j := 3) t1 rfl, take_at (a := 5) (j := 0) t2 rfl, take_at (a := 5) (j := 1) t2 rfl, take_at (a := 7) (j := 0) b0 rfl⟩

theorem kndW_of {W : World} {r : List (String × DataW Unit)} (h : laidMet Tryz.prog (("chattel/term.kinds", Rows.laid_chattel_term_kinds) :: r) W) : KndW W := by
  obtain ⟨ps, ⟨g, t, cs, fuel, p, q, hg, ht, hv, hd, _, _⟩, _⟩ := h
  obtain rfl := Option.some.inj (gKnd.symm.trans hg)
  obtain rfl := Option.some.inj (typeKnd.symm.trans ht)
  obtain ⟨xs, m, _, ex, _, hl, hel⟩ := DataW.trod_array Tryz.underlying241 hd
  have c8 : Tryz.prog.cellsOf 216 = 8 := by kernel_rfl
  have all : ∀ k, k < 18 → _ := fun k hk => by
    have hE := hel k hk
    rw [c8, List.getElem?_eq_getElem (by omega)] at hE
    have hrow := knd_list (Prod.mk.inj ex).1 k hk
    rw [List.getElem?_map, List.getElem?_eq_getElem (by omega : k < xs.length)] at hrow
    exact kind_cells hE (Option.some.inj hrow)
  have cell : ∀ k j v, k < 18 → (List.take 8 (List.drop (k * 8) cs.toList))[j]? = some v → W.cell? ⟨0, k * 8 + j, none⟩ = some v := fun k j v hk hj => by
    rw [World.var?_cell hg hv (k * 8 + j)]
    have := take_at (l := cs.toList) (a := k * 8) (n := 8) rfl hj
    simpa using this
  refine ⟨fun k hk => ?_, fun k hk => ?_, fun k hk => ?_, fun k hk => ?_, fun k hk => ?_, fun k hk => ?_, fun k hk => ?_, fun k hk => ?_⟩
  · exact cell k 0 _ hk (all k hk).1
  · exact cell k 1 _ hk (all k hk).2.1
  · exact cell k 2 _ hk (all k hk).2.2.1
  · exact cell k 3 _ hk (all k hk).2.2.2.1
  · exact cell k 4 _ hk (all k hk).2.2.2.2.1
  · exact cell k 5 _ hk (all k hk).2.2.2.2.2.1
  · exact cell k 6 _ hk (all k hk).2.2.2.2.2.2.1
  · exact cell k 7 _ hk (all k hk).2.2.2.2.2.2.2

end Go.Proofs.YtgeneoamngfomaaGreatDoor

namespace Go.Proofs.YtgeneoamngfomaaGreatDoor
open Go Go.ChangeShapes Go.WideShapes Go.ChangeAt Go.RowKit Go.Lib
set_option linter.unusedVariables false

theorem cells_node : Tryz.prog.cellsOf 60 = 5 := by kernel_rfl
theorem wf_i64T {n : Int} (h : (Lit.int .i64 n).wf = true) : I64T n := bounds_i64 h
set_option maxRecDepth 100000 in
/-- A node's cells read as a node. -/
theorem node_cells {H : Type} {W : World} {base : Nat} {sp : Nat → Bool} {held : Bool} {fuel : Nat} {enc : TypeId × Value → H} {cs : List Value} {x : DataW H × List MemPlace} (h : DataW.trod enc Tryz.prog W base sp held fuel 60 cs = some x) :
    ∃ n : Nd, cs[0]? = some (.int .i64 n.op) ∧ cs[1]? = some (.int .i64 n.a) ∧ cs[2]? = some (.int .i64 n.b) ∧ cs[3]? = some (.int .i64 n.num) ∧ cs[4]? = some (.int .i64 n.den) ∧ I64T n.num ∧ I64T n.den ∧ I64T n.op ∧ I64T n.a ∧ I64T n.b := by
  obtain ⟨y0, y1, y2, y3, n, _, _, h0, h1, h2, h3⟩ := trod_struct4 Tryz.underlying60 h
  obtain ⟨x0, e0, _, w0⟩ := DataW.trod_int Tryz.underlying3 h0
  obtain ⟨x1, e1, _, w1⟩ := DataW.trod_int Tryz.underlying3 h1
  obtain ⟨x2, e2, _, w2⟩ := DataW.trod_int Tryz.underlying3 h2
  obtain ⟨z0, z1, m, _, _, g0, g1⟩ := trod_struct2 Tryz.underlying58 h3
  obtain ⟨x3, e3, _, w3⟩ := DataW.trod_int Tryz.underlying3 g0
  obtain ⟨x4, e4, _, w4⟩ := DataW.trod_int Tryz.underlying3 g1
  have hr2 : Tryz.prog.cellsOf 58 = 2 := by kernel_rfl
  have hi1 : Tryz.prog.cellsOf 3 = 1 := by kernel_rfl
  change List.take (Tryz.prog.cellsOf 3) (List.drop 0 (List.take (Tryz.prog.cellsOf 58) (List.drop 3 cs))) = _ at e3
  change List.take (Tryz.prog.cellsOf 3) (List.drop 1 (List.take (Tryz.prog.cellsOf 58) (List.drop 3 cs))) = _ at e4
  rw [hr2, hi1] at e3 e4
  refine ⟨⟨x0, x1, x2, x3, x4⟩, take_at (a := 0) (j := 0) e0 rfl, take_at (a := 1) (j := 0) e1 rfl, take_at (a := 2) (j := 0) e2 rfl, ?_, ?_, wf_i64T w3, wf_i64T w4, wf_i64T w0, wf_i64T w1, wf_i64T w2⟩
  · have q : (List.take 2 (List.drop 3 cs))[0 + 0]? = some (.int .i64 x3) := take_at (l := List.take 2 (List.drop 3 cs)) (a := 0) (n := 1) (j := 0) e3 rfl
    exact take_at (a := 3) (n := 2) (j := 0) rfl q
  · have q : (List.take 2 (List.drop 3 cs))[1 + 0]? = some (.int .i64 x4) := take_at (l := List.take 2 (List.drop 3 cs)) (a := 1) (n := 1) (j := 0) e4 rfl
    exact take_at (a := 3) (n := 2) (j := 1) rfl q

/-- All numbers of a row's nodes fit. -/
def FitT (t : List Nd) : Prop := ∀ p, p < t.length → I64T (t.getD p default).op ∧ I64T (t.getD p default).a ∧ I64T (t.getD p default).b
set_option maxRecDepth 100000 in
theorem open_nodes {H : Type} {enc : TypeId × Value → H} {w : World} {base : Nat} {spare : Nat → Bool} {held : Bool} {fuel : Nat} {cs : List Value} {x : DataW H × List MemPlace}
    (h : DataW.trod enc Tryz.prog w base spare held fuel 22 cs = some x) : ∃ (v : Value) (t : List Nd) (a : Option Addr) (cap : Nat), cs = [v] ∧ v = .slice a t.length cap ∧ SlT w v t ∧ BdT t ∧ FitT t ∧ t.length ≤ 9223372036854775807 := by
  rcases DataW.trod_slice Tryz.underlying22 h with h0 | ⟨a, len, cap, elems, rest, n, _, rfl, rfl, hb, hl, hm, hlen, hel, hsp, hns⟩
  · exact ⟨_, [], none, 0, h0.1, rfl, .inl ⟨rfl, _, _, rfl⟩, fun p hp => absurd hp (Nat.not_lt_zero _), fun p hp => absurd hp (Nat.not_lt_zero _), by simp⟩
  · have all : ∀ i, i < len → ∃ nd : Nd, (w.cell? (a.add (i * 5)) = some (.int .i64 nd.op) ∧ w.cell? (a.add (i * 5 + 1)) = some (.int .i64 nd.a) ∧ w.cell? (a.add (i * 5 + 2)) = some (.int .i64 nd.b) ∧ w.cell? (a.add (i * 5 + 3)) = some (.int .i64 nd.num) ∧ w.cell? (a.add (i * 5 + 4)) = some (.int .i64 nd.den)) ∧ I64T nd.num ∧ I64T nd.den ∧ I64T nd.op ∧ I64T nd.a ∧ I64T nd.b := fun i hi => by
      have hE := hel i hi
      rw [cells_node, List.getElem?_eq_getElem (by omega)] at hE
      obtain ⟨cs', hcs, hy⟩ := Option.bind_eq_some_iff.1 hE
      obtain ⟨_, hl3, hc⟩ := World.cells?_some hcs
      obtain ⟨nd, g0, g1, g2, g3, g4, hn⟩ := node_cells hy
      have q0 := (hc 0 (by omega)).trans g0
      have q1 := (hc 1 (by omega)).trans g1
      have q2 := (hc 2 (by omega)).trans g2
      have q3 := (hc 3 (by omega)).trans g3
      have q4 := (hc 4 (by omega)).trans g4
      rw [Addr.add_add] at q0 q1 q2 q3 q4
      exact ⟨nd, ⟨q0, q1, q2, q3, q4⟩, hn⟩
    have hmx : cap ≤ 9223372036854775807 := by unfold maxLen at hm; omega
    by_cases hz : len = 0
    · subst hz
      exact ⟨_, [], some a, cap, rfl, rfl, .inl ⟨rfl, _, _, rfl⟩, fun p hp => absurd hp (Nat.not_lt_zero _), fun p hp => absurd hp (Nat.not_lt_zero _), by simp⟩
    · obtain ⟨f, hf⟩ : ∃ f : Nat → Nd, ∀ i (hi : i < len), (w.cell? (a.add (i * 5)) = some (.int .i64 (f i).op) ∧ w.cell? (a.add (i * 5 + 1)) = some (.int .i64 (f i).a) ∧ w.cell? (a.add (i * 5 + 2)) = some (.int .i64 (f i).b) ∧ w.cell? (a.add (i * 5 + 3)) = some (.int .i64 (f i).num) ∧ w.cell? (a.add (i * 5 + 4)) = some (.int .i64 (f i).den)) ∧ I64T (f i).num ∧ I64T (f i).den ∧ I64T (f i).op ∧ I64T (f i).a ∧ I64T (f i).b := by
        classical
        refine ⟨fun i => if h : i < len then Classical.choose (all i h) else default, fun i hi => ?_⟩
        simp only [dif_pos hi]
        exact Classical.choose_spec (all i hi)
      have hL : ((List.range len).map f).length = len := by simp
      have hG : ∀ i, i < len → ((List.range len).map f).getD i default = f i := fun i hi => by
        rw [List.getD_eq_getElem?_getD, List.getElem?_map, List.getElem?_range hi]; rfl
      obtain ⟨b, o, spot⟩ := a
      have hspot : spot = none := by
        have := World.cell?_spot (hf 0 (by omega)).1.1
        simpa [Addr.add] using this
      subst hspot
      refine ⟨_, (List.range len).map f, some ⟨b, o, none⟩, cap, by rw [hL], rfl, .inr ⟨by omega, b, o, cap, rfl, by omega, hmx, fun j hj => ?_⟩, fun p hp => ?_, fun p hp => ?_, by omega⟩
      · rw [hL] at hj
        rw [hG j hj]
        obtain ⟨⟨q0, q1, q2, q3, q4⟩, _⟩ := hf j hj
        rw [Go.WideShapes.add_plain] at q0 q1 q2 q3 q4
        exact ⟨q0, q1, q2, q3, q4⟩
      · rw [hL] at hp
        rw [hG p hp]
        obtain ⟨_, r0, r1, _⟩ := hf p hp
        exact ⟨r0, r1⟩
      · rw [hL] at hp
        rw [hG p hp]
        obtain ⟨_, _, _, r2, r3, r4⟩ := hf p hp
        exact ⟨r2, r3, r4⟩

end Go.Proofs.YtgeneoamngfomaaGreatDoor

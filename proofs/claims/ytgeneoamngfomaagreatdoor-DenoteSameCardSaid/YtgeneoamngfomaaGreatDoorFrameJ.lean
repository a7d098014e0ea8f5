/-
  A job of layer 9 that came in: a struct of nodes, two days, and facts told.
-/
import Derived.Test.YtgeneoamngfomaaGreatDoorFrKN
import Derived.Test.YtgeneoamngfomaaGreatDoorFrameY
namespace Go.Proofs.YtgeneoamngfomaaGreatDoor
open Go Go.ChangeShapes Go.WideShapes Go.ChangeAt Go.RowKit Go.Lib Go.ChangeMaps
set_option linter.unusedVariables false
set_option linter.unusedSimpArgs false

theorem cellsJ_job : Tryz.prog.cellsOf 25 = 4 := by kernel_rfl
theorem cellsJ_nodes : Tryz.prog.cellsOf 22 = 1 := by kernel_rfl
theorem cellsJ_told : Tryz.prog.cellsOf 23 = 1 := by kernel_rfl
set_option maxRecDepth 100000 in
theorem open_job {H : Type} {enc : TypeId × Value → H} {w : World} {base b0 : Nat} {spare : Nat → Bool} {held : Bool} {r : Reach} {v : Value} {d : DataW H} {ps : List MemPlace}
    (hv : Value.okWide Tryz.prog w r b0 25 v) (h : DataW.Trod enc Tryz.prog w base spare held 25 v d ps) :
    ∃ (s1 s2 : Value) (t : List Nd) (fr tu : Int) (L : List Tol), v = .agg #[s1, .int .i64 fr, .int .i64 tu, s2] ∧ BdT t ∧ SlT w s1 t ∧ I64 fr ∧ I64 tu ∧ SlTol w s2 L ∧ ∀ j, j < L.length → (L.getD j default).Ok := by
  have hv2 : ∃ cs, v = .agg cs ∧ cs.size = Tryz.prog.cellsOf 25 := by
    unfold Value.okWide at hv
    rw [Tryz.underlying25] at hv
    obtain ⟨cs, h1, h2, _⟩ := hv
    exact ⟨cs, h1, h2⟩
  obtain ⟨cs, rfl, hsz⟩ := hv2
  rw [cellsJ_job] at hsz
  obtain ⟨fuel, hf⟩ := h
  obtain ⟨y0, y1, y2, y3, n, _, _, h0, h1, h2, h3⟩ := trod_struct4 Tryz.underlying25 hf
  obtain ⟨l⟩ := cs
  match l, hsz with
  | [a0, a1, a2, a3], _ =>
    obtain ⟨x1, e1, _, w1⟩ := DataW.trod_int Tryz.underlying3 h1
    obtain ⟨x2, e2, _, w2⟩ := DataW.trod_int Tryz.underlying3 h2
    obtain ⟨u, t, a, cap, eu, rfl, hs, hb, _, _⟩ := open_nodes h0
    obtain ⟨z, L, ez, hs2, hok⟩ := open_told h3
    rw [cellsY_int] at e1 e2
    rw [cellsJ_nodes] at eu
    rw [cellsJ_told] at ez
    simp [Value.cells] at e1 e2 eu ez
    subst e1 e2 eu ez
    exact ⟨_, _, t, x1, x2, L, rfl, hb, hs, wfY w1, wfY w2, hs2, hok⟩

end Go.Proofs.YtgeneoamngfomaaGreatDoor

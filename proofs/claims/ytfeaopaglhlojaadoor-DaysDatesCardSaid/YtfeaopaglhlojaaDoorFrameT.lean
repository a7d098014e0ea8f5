/-
  What a law's frame tells of arrays of three numbers.
-/
import Derived.Test.YtfeaopaglhlojaaDoorFrameD
import Derived.Lib.SmallJoins
namespace Go.Proofs.YtfeaopaglhlojaaDoor
open Go.ChangeShapes Go.WideShapes Go.ChangeAt Go.RowKit
set_option linter.unusedVariables false

theorem cells_intD : Tryd.prog.cellsOf 3 = 1 := by kernel_rfl
theorem cells_three : Tryd.prog.cellsOf 38 = 3 := by kernel_rfl
set_option maxRecDepth 100000 in
/-- An array of three numbers that came in. -/
theorem open_three {H : Type} {enc : TypeId × Value → H} {w : World} {base b0 : Nat} {spare : Nat → Bool} {held : Bool} {r : Reach} {v : Value} {d : DataW H} {ps : List MemPlace}
    (hv : Value.okWide Tryd.prog w r b0 38 v) (h : DataW.Trod enc Tryd.prog w base spare held 38 v d ps) :
    ∃ x y z : Int, v = .agg #[.int .i64 x, .int .i64 y, .int .i64 z] ∧ I64d x ∧ I64d y ∧ I64d z := by
  have hv2 : ∃ cs, v = .agg cs ∧ cs.size = Tryd.prog.cellsOf 38 := by
    unfold Value.okWide at hv
    rw [Tryd.underlying38] at hv
    obtain ⟨cs, h1, h2, _⟩ := hv
    exact ⟨cs, h1, h2⟩
  obtain ⟨cs, rfl, hsz⟩ := hv2
  obtain ⟨c0, c1, c2, rfl⟩ := Joins.array3 (hsz.trans cells_three)
  obtain ⟨fuel, hf⟩ := h
  obtain ⟨xs, m, _, _, _, hl, hx⟩ := DataW.trod_array Tryd.underlying38 hf
  have h0 := hx 0 (by omega)
  have h1 := hx 1 (by omega)
  have h2 := hx 2 (by omega)
  rw [cells_intD] at h0 h1 h2
  simp [Value.cells] at h0 h1 h2
  rw [List.getElem?_eq_getElem (by omega)] at h0 h1 h2
  obtain ⟨x, e0, _, wx⟩ := DataW.trod_int Tryd.underlying3 h0
  obtain ⟨y, e1, _, wy⟩ := DataW.trod_int Tryd.underlying3 h1
  obtain ⟨z, e2, _, wz⟩ := DataW.trod_int Tryd.underlying3 h2
  simp at e0 e1 e2
  subst e0 e1 e2
  exact ⟨x, y, z, rfl, wf_i64 wx, wf_i64 wy, wf_i64 wz⟩

end Go.Proofs.YtfeaopaglhlojaaDoor

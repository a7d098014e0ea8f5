/-
  What cash's rows list: the library's variables, and the table of currencies.
-/
import Derived.Test.YtdmdgoeacafpiaaGreatDoorDoor
import Derived.Test.YtdmdgoeacafpiaaGreatDoorCshA
import Derived.ChangeSame
import Derived.OpenShut
namespace Go.Proofs.YtdmdgoeacafpiaaGreatDoor
open Go Go.ChangeShapes Go.WideShapes Go.ChangeAt Go.RowKit Go.Lib
set_option linter.unusedVariables false

theorem gCur : Tryz.prog.globalNamed "chattel/cash.currencies" = some 1 := by kernel_rfl
theorem typeCur : (Tryz.prog.globals[1]?).map (·.type) = some 139 := by kernel_rfl
def curRow (k : Nat) : DataW Unit := .agg [.lit (.string (curN k)), .lit (.int .i64 (curD k))]
theorem cur_list {ls : List (DataW Unit)} (h : (Rows.laid_chattel_cash_currencies : DataW Unit) = .agg ls) (k : Nat) (hk : k < 8) : ls[k]? = some (curRow k) := by
  obtain rfl := DataW.agg.inj h
  match k, hk with
  | 0, _ => rfl
  | 1, _ => rfl
  | 2, _ => rfl
  | 3, _ => rfl
  | 4, _ => rfl
  | 5, _ => rfl
  | 6, _ => rfl
  | 7, _ => rfl
theorem take_one {α : Type} {l : List α} {a b c n : Nat} {v : α} (h : (((l.drop a).take n).drop b).take 1 = [v]) (hn : b < n) (hc : a + b = c) : l[c]? = some v := by
  have h0 := congrArg (·[0]?) h
  simp only [List.getElem?_take, List.getElem?_drop] at h0
  subst hc
  simpa [hn] using h0
theorem curW_of {W : World} {r : List (String × DataW Unit)} (h : laidMet Tryz.prog (("chattel/cash.currencies", Rows.laid_chattel_cash_currencies) :: r) W) : CurW W := by
  obtain ⟨ps, ⟨g, t, cs, fuel, p, q, hg, ht, hv, hd, _, _⟩, _⟩ := h
  obtain rfl := Option.some.inj (gCur.symm.trans hg)
  obtain rfl := Option.some.inj (typeCur.symm.trans ht)
  obtain ⟨xs, m, _, ex, _, hl, hel⟩ := DataW.trod_array Tryz.underlying139 hd
  have c2 : Tryz.prog.cellsOf 138 = 2 := by kernel_rfl
  have cs1 : Tryz.prog.cellsOf 9 = 1 := by kernel_rfl
  have ci1 : Tryz.prog.cellsOf 3 = 1 := by kernel_rfl
  have both : ∀ k, k < 8 → cs.toList[k * 2]? = some (.string ⟨(curN k).toArray⟩) ∧ cs.toList[k * 2 + 1]? = some (.int .i64 (curD k)) := by
    intro k hk
    have hE := hel k hk
    rw [c2, List.getElem?_eq_getElem (by omega)] at hE
    have hrow := cur_list (Prod.mk.inj ex).1 k hk
    rw [List.getElem?_map, List.getElem?_eq_getElem (by omega : k < xs.length)] at hrow
    obtain ⟨y0, y1, n, ey, _, h0, h1⟩ := trod_struct2 Tryz.underlying138 hE
    obtain ⟨s, e0, e1, _⟩ := DataW.trod_string Tryz.underlying9 h0
    obtain ⟨z, f0, f1, _⟩ := DataW.trod_int Tryz.underlying3 h1
    rw [ey, e1, f1] at hrow
    change List.take (Tryz.prog.cellsOf 9) (List.drop 0 (List.take 2 (List.drop (k * 2) cs.toList))) = _ at e0
    rw [cs1] at e0
    change List.take (Tryz.prog.cellsOf 3) (List.drop 1 (List.take 2 (List.drop (k * 2) cs.toList))) = _ at f0
    rw [ci1] at f0
    have hrow' : (.agg [.lit (.string s.data.toList), .lit (.int .i64 z)] : DataW Unit) = .agg [.lit (.string (curN k)), .lit (.int .i64 (curD k))] := Option.some.inj hrow
    have hls := DataW.agg.inj hrow'
    injection hls with a b
    injection b with b _
    have hs := Lit.string.inj (DataW.lit.inj a)
    have hz := (Lit.int.inj (DataW.lit.inj b)).2
    constructor
    · have := take_one (c := k * 2) (b := 0) (n := 2) e0 (by decide) (Nat.add_zero _)
      rw [this, ← Lib.mk_data s, hs]
    · have := take_one (c := k * 2 + 1) (b := 1) (n := 2) f0 (by decide) rfl
      rw [this, hz]
  refine ⟨fun k hk => ?_, fun k hk => ?_⟩
  · rw [World.var?_cell hg hv (k * 2)]
    simpa using (both k hk).1
  · rw [World.var?_cell hg hv (k * 2 + 1)]
    simpa using (both k hk).2

end Go.Proofs.YtdmdgoeacafpiaaGreatDoor

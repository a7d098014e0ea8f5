/-
  What the rows of package text list: all tables.
-/
import Derived.Test.YtdmdgoeacafpiaaGreatDoorFrKN
import Derived.Test.YtdmdgoeacafpiaaGreatDoorCshL
import Derived.Test.YtdmdgoeacafpiaaGreatDoorFrameD
import Derived.Test.YtdmdgoeacafpiaaGreatDoorPq
namespace Go.Proofs.YtdmdgoeacafpiaaGreatDoor
open Go Go.ChangeShapes Go.WideShapes Go.ChangeAt Go.RowKit Go.Lib
set_option linter.unusedVariables false

theorem gHd : Tryz.prog.globalNamed "chattel/text.heads" = some 0 := by kernel_rfl
theorem typeHd : (Tryz.prog.globals[0]?).map (·.type) = some 93 := by kernel_rfl
def headRow (k : Nat) : DataW Unit := .agg [.lit (.string (wdN k)), Lib.tabData .i64 [(fdC k 0 : Int), fdC k 1]]
theorem hd_list {ls : List (DataW Unit)} (h : (Rows.laid_chattel_text_heads : DataW Unit) = .agg ls) (k : Nat) (hk : k < 18) : ls[k]? = some (headRow k) := by
  obtain rfl := DataW.agg.inj h
  rcases k with _ | k
  · rfl
  rcases k with _ | k
  · rfl
  rcases k with _ | k
  · rfl
  rcases k with _ | k
  · rfl
  rcases k with _ | k
  · rfl
  rcases k with _ | k
  · rfl
  rcases k with _ | k
  · rfl
  rcases k with _ | k
  · rfl
  rcases k with _ | k
  · rfl
  rcases k with _ | k
  · rfl
  rcases k with _ | k
  · rfl
  rcases k with _ | k
  · rfl
  rcases k with _ | k
  · rfl
  rcases k with _ | k
  · rfl
  rcases k with _ | k
  · rfl
  rcases k with _ | k
  · rfl
  rcases k with _ | k
  · rfl
  rcases k with _ | k
  · rfl
  omega
theorem head_cells {W : World} {base : Nat} {sp : Nat → Bool} {held : Bool} {fuel : Nat} {enc : TypeId × Value → Unit} {cs : List Value} {x : DataW Unit × List MemPlace} {k : Nat} (h : DataW.trod enc Tryz.prog W base sp held fuel 92 cs = some x) (hx : x.1 = headRow k) :
    cs[0]? = some (.string ⟨(wdN k).toArray⟩) ∧ cs[1]? = some (.int .i64 (fdC k 0)) ∧ cs[2]? = some (.int .i64 (fdC k 1)) := by
  obtain ⟨y0, y1, n, ey, _, h0, h1⟩ := trod_struct2 Tryz.underlying92 h
  have ey' := congrArg Prod.fst ey
  rw [hx] at ey'
  have hls := DataW.agg.inj ey'
  injection hls with a0 hls
  injection hls with a1 _
  obtain ⟨s, e0, e1, _⟩ := DataW.trod_string Tryz.underlying9 h0
  obtain ⟨d1, p1⟩ := y1
  dsimp only at a1
  subst a1
  have t1 := Lib.cells_of_tab Tryz.underlying90 Tryz.underlying3 (by kernel_rfl) (by kernel_rfl) h1
  rw [e1] at a0
  have hs := Lit.string.inj (DataW.lit.inj a0)
  have q := take_at (a := 0) (j := 0) e0 rfl
  refine ⟨?_, take_at (a := 1) (j := 0) t1 rfl, take_at (a := 1) (j := 1) t1 rfl⟩
  rw [q, ← Lib.mk_data s, ← hs]
theorem hdW_of {W : World} {r : List (String × DataW Unit)} (h : laidMet Tryz.prog (("chattel/text.heads", Rows.laid_chattel_text_heads) :: r) W) : HdW W := by
  obtain ⟨ps, ⟨g, t, cs, fuel, p, q, hg, ht, hv, hd, _, _⟩, _⟩ := h
  obtain rfl := Option.some.inj (gHd.symm.trans hg)
  obtain rfl := Option.some.inj (typeHd.symm.trans ht)
  obtain ⟨xs, m, _, ex, _, hl, hel⟩ := DataW.trod_array Tryz.underlying93 hd
  have c3 : Tryz.prog.cellsOf 92 = 3 := by kernel_rfl
  have all : ∀ k, k < 18 → _ := fun k hk => by
    have hE := hel k hk
    rw [c3, List.getElem?_eq_getElem (by omega)] at hE
    have hrow := hd_list (Prod.mk.inj ex).1 k hk
    rw [List.getElem?_map, List.getElem?_eq_getElem (by omega : k < xs.length)] at hrow
    exact head_cells hE (Option.some.inj hrow)
  have cell : ∀ k j v, k < 18 → (List.take 3 (List.drop (k * 3) cs.toList))[j]? = some v → W.cell? ⟨0, k * 3 + j, none⟩ = some v := fun k j v hk hj => by
    rw [World.var?_cell hg hv (k * 3 + j)]
    have := take_at (l := cs.toList) (a := k * 3) (n := 3) rfl hj
    simpa using this
  exact ⟨fun k hk => cell k 0 _ hk (all k hk).1, fun k hk => cell k 1 _ hk (all k hk).2.1, fun k hk => cell k 2 _ hk (all k hk).2.2⟩

/-- What a row of package text lists. -/
theorem tabW_of {W : World} (h : laidMetH Tryz.prog Rows.textGapsRow.laid W) (hsh : W.ShapedOpen Tryz.prog) : TabW W := by
  rw [MakeChecks.laidMetH_plain _ _ _ (by kernel_rfl)] at h
  have h3 := laidMet.tail (laidMet.tail h)
  have h5 := laidMet.tail (laidMet.tail h3)
  have h6 := laidMet.tail h5
  have h7 := laidMet.tail h6
  have h8 := laidMet.tail h7
  have h9 := laidMet.tail h8
  have h10 := laidMet.tail h9
  exact ⟨⟨Lib.tabIs_of_head gPow typePow Tryz.underlying212 Tryz.underlying179 (by kernel_rfl) (by kernel_rfl) h3, max_of hsh, errVar h6 gSyn typeSyn, errVar h5 gRng typeRng⟩, curW_of h8, lenW_of h7, kndW_of h9, hdW_of h10⟩

end Go.Proofs.YtdmdgoeacafpiaaGreatDoor

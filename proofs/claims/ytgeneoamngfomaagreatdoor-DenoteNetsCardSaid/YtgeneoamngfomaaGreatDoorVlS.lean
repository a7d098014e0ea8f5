/-
  Package value: worked's state in memory, and ofNode by the values below it.
-/
import Derived.Test.YtgeneoamngfomaaGreatDoorVlD
import Derived.Test.YtgeneoamngfomaaGreatDoorVlE
namespace Go.Proofs.YtgeneoamngfomaaGreatDoor
open Go.RowKit Go.Lib Go.Shelf Go.Maps
set_option linter.unusedVariables false
set_option linter.unusedSimpArgs false

/-- A value's cells. -/
structure ValC (W : World) (b p : Nat) (v : Option (Option Rat)) : Prop where
  c0 : W.cell? ⟨b, p, none⟩ = some (.bool (vB v))
  c1 : W.cell? ⟨b, p + 1, none⟩ = some (.int .i64 (vN v))
  c2 : W.cell? ⟨b, p + 2, none⟩ = some (.int .i64 (vD v))
theorem ValC.keep {W W' : World} {b p : Nat} {v : Option (Option Rat)} (h : ValC W b p v) (hb : Below W.heap.size W W') : ValC W' b p v := ⟨keepF hb h.c0, keepF hb h.c1, keepF hb h.c2⟩
/-- What worked holds, z being where its own blocks begin. -/
structure WkS (w : World) (z c b o cap : Nat) (day : Int) (B : Nat) (arr : Nat → Option Rat) (W : World) : Prop where
  cp : 0 < c
  t0 : W.cell? ⟨z, 0, none⟩ = some (.slice (some ⟨b, o, none⟩) c cap)
  d0 : W.cell? ⟨z + 1, 0, none⟩ = some (.int .i64 day)
  f0 : W.cell? ⟨z + 1 + 1, 0, none⟩ = some (.pointer (some ⟨B, 0, none⟩))
  r0 : W.cell? ⟨z + 1 + 1 + 1, 0, none⟩ = some (.bool false)
  r1 : W.cell? ⟨z + 1 + 1 + 1, 1, none⟩ = some (.int .i64 0)
  r2 : W.cell? ⟨z + 1 + 1 + 1, 2, none⟩ = some (.int .i64 0)
  e0 : W.cell? ⟨z + 1 + 1 + 1 + 1, 0, none⟩ = some (.int .i64 0)
  s0 : W.cell? ⟨z + 1 + 1 + 1 + 1 + 1 + 1, 0, none⟩ = some (.slice (some ⟨z + 1 + 1 + 1 + 1 + 1, 0, none⟩) c c)
  va : ∀ q, q < c → ValC W (z + 1 + 1 + 1 + 1 + 1) (q * 3) (some (arr q))
  zr : ∀ i, W.frozen? ⟨z + 1 + 1 + 1, i, none⟩ = false
  ze : ∀ i, W.frozen? ⟨z + 1 + 1 + 1 + 1, i, none⟩ = false
  zv : ∀ i, W.frozen? ⟨z + 1 + 1 + 1 + 1 + 1, i, none⟩ = false
  bel : Below z w W
theorem WkS.keep {w W W' : World} {z c b o cap B : Nat} {day : Int} {arr : Nat → Option Rat} (h : WkS w z c b o cap day B arr W) (hz : z ≤ W.heap.size) (hb : Below W.heap.size W W') : WkS w z c b o cap day B arr W' :=
  ⟨h.cp, keepF hb h.t0, keepF hb h.d0, keepF hb h.f0, keepF hb h.r0, keepF hb h.r1, keepF hb h.r2, keepF hb h.e0, keepF hb h.s0, fun q hq => (h.va q hq).keep hb,
    fun i => (hb.frozen (p := ⟨_, i, none⟩) (ltF h.r0)).trans (h.zr i), fun i => (hb.frozen (p := ⟨_, i, none⟩) (ltF h.e0)).trans (h.ze i), fun i => (hb.frozen (p := ⟨_, i, none⟩) (ltF (h.va 0 h.cp).c0)).trans (h.zv i), h.bel.trans (hb.mono hz)⟩
theorem frz_blk {W W' : World} {row : Option Nat} {b i j : Nat} {v : Value} (h : W.cell? ⟨b, i, none⟩ = some v) (hg : W.grownBy W' row) (hrow : ∀ r, row = some r → ∃ o : Obj, W.heap[r]? = some o ∧ o.isCells = false) : W'.frozen? ⟨b, j, none⟩ = W.frozen? ⟨b, j, none⟩ := by
  obtain ⟨o, ho, hc⟩ := cells_of_cell h
  exact World.frozen?_of_block (grownBy_keeps_cells hg hrow ho hc)
/-- What is no cells of others turns. -/
theorem WkS.turn {w W W' : World} {z c b o cap B : Nat} {day : Int} {arr : Nat → Option Rat} (h : WkS w z c b o cap day B arr W) {row : Option Nat} (hg : W.grownBy W' row) (hz : z ≤ W.heap.size) (hr : ∀ r, row = some r → z ≤ r ∧ ∃ o : Obj, W.heap[r]? = some o ∧ o.isCells = false) : WkS w z c b o cap day B arr W' := by
  have hr' : ∀ r, row = some r → ∃ o : Obj, W.heap[r]? = some o ∧ o.isCells = false := fun r e => (hr r e).2
  exact ⟨h.cp, cell_kept h.t0 hg hr', cell_kept h.d0 hg hr', cell_kept h.f0 hg hr', cell_kept h.r0 hg hr', cell_kept h.r1 hg hr', cell_kept h.r2 hg hr', cell_kept h.e0 hg hr', cell_kept h.s0 hg hr', fun q hq => ⟨cell_kept (h.va q hq).c0 hg hr', cell_kept (h.va q hq).c1 hg hr', cell_kept (h.va q hq).c2 hg hr'⟩,
    fun i => (frz_blk h.r0 hg hr').trans (h.zr i), fun i => (frz_blk h.e0 hg hr').trans (h.ze i), fun i => (frz_blk (h.va 0 h.cp).c0 hg hr').trans (h.zv i), h.bel.grown hg hz (fun j hj => (hr j hj).1)⟩
theorem cell3_ne {W : World} {Q p b i : Nat} {x0 x1 x2 : Value} (h : b ≠ Q ∨ (i ≠ p ∧ i ≠ p + 1 ∧ i ≠ p + 2)) : (((W.setCell ⟨Q, p, none⟩ x0).setCell ⟨Q, p + 1, none⟩ x1).setCell ⟨Q, p + 2, none⟩ x2).cell? ⟨b, i, none⟩ = W.cell? ⟨b, i, none⟩ := by
  rw [cell_other (fun e => by injection e with e1 e2 _; rcases h with h | h; exact h e1.symm; exact h.2.2 e2.symm), cell_other (fun e => by injection e with e1 e2 _; rcases h with h | h; exact h e1.symm; exact h.2.1 e2.symm), cell_other (fun e => by injection e with e1 e2 _; rcases h with h | h; exact h e1.symm; exact h.1 e2.symm)]
/-- A value is stored. -/
theorem WkS.put {w W : World} {z c b o cap B : Nat} {day : Int} {arr : Nat → Option Rat} (h : WkS w z c b o cap day B arr W) {x : Nat} (hx : x < c) (v : Option Rat) :
    WkS w z c b o cap day B (fun q => if q = x then v else arr q) (((W.setCell ⟨z + 1 + 1 + 1 + 1 + 1, x * 3, none⟩ (.bool (vB (some v)))).setCell ⟨z + 1 + 1 + 1 + 1 + 1, x * 3 + 1, none⟩ (.int .i64 (vN (some v)))).setCell ⟨z + 1 + 1 + 1 + 1 + 1, x * 3 + 2, none⟩ (.int .i64 (vD (some v)))) := by
  refine ⟨h.cp, (cell3_ne (.inl (by omega))).trans h.t0, (cell3_ne (.inl (by omega))).trans h.d0, (cell3_ne (.inl (by omega))).trans h.f0, (cell3_ne (.inl (by omega))).trans h.r0, (cell3_ne (.inl (by omega))).trans h.r1, (cell3_ne (.inl (by omega))).trans h.r2, (cell3_ne (.inl (by omega))).trans h.e0, (cell3_ne (.inl (by omega))).trans h.s0, fun q hq => ?_, fun i => ?_, fun i => ?_, fun i => ?_, ?_⟩
  · have hv := h.va x hx
    by_cases e : q = x
    · subst e
      rw [if_pos rfl]
      refine ⟨?_, ?_, ?_⟩
      · rw [cell_other (addr_ne_off (by omega)), cell_other (addr_ne_off (by omega)), cell_same hv.c0]
      · rw [cell_other (addr_ne_off (by omega)), cell_same ((cell_other (addr_ne_off (by omega))).trans hv.c1)]
      · rw [cell_same ((cell_other (addr_ne_off (by omega))).trans ((cell_other (addr_ne_off (by omega))).trans hv.c2))]
    · rw [if_neg e]
      have hq' := h.va q hq
      exact ⟨(cell3_ne (.inr ⟨by omega, by omega, by omega⟩)).trans hq'.c0, (cell3_ne (.inr ⟨by omega, by omega, by omega⟩)).trans hq'.c1, (cell3_ne (.inr ⟨by omega, by omega, by omega⟩)).trans hq'.c2⟩
  · rw [World.frozen?_setCell, World.frozen?_setCell, World.frozen?_setCell]; exact h.zr i
  · rw [World.frozen?_setCell, World.frozen?_setCell, World.frozen?_setCell]; exact h.ze i
  · rw [World.frozen?_setCell, World.frozen?_setCell, World.frozen?_setCell]; exact h.zv i
  · exact Below.setCell (Below.setCell (Below.setCell h.bel (by show z ≤ z + 1 + 1 + 1 + 1 + 1; omega) _) (by show z ≤ z + 1 + 1 + 1 + 1 + 1; omega) _) (by show z ≤ z + 1 + 1 + 1 + 1 + 1; omega) _
/-- What is handed to ofNode of the first i places below. -/
def yN (t : List Nd) (arr : Nat → Option Rat) (x i j : Nat) : Int := if j < i then vN (some (arr (plA t (x + 1) j))) else 0
def yD (t : List Nd) (arr : Nat → Option Rat) (x i j : Nat) : Int := if j < i then vD (some (arr (plA t (x + 1) j))) else 0
structure BlC (W : World) (t : List Nd) (arr : Nat → Option Rat) (x Y i : Nat) : Prop where
  y0 : W.cell? ⟨Y, 0, none⟩ = some (.int .i64 (yN t arr x i 0))
  y1 : W.cell? ⟨Y, 1, none⟩ = some (.int .i64 (yD t arr x i 0))
  y2 : W.cell? ⟨Y, 2, none⟩ = some (.int .i64 (yN t arr x i 1))
  y3 : W.cell? ⟨Y, 3, none⟩ = some (.int .i64 (yD t arr x i 1))
  zy : ∀ i, W.frozen? ⟨Y, i, none⟩ = false
theorem ret_val {a a' : Bool} {b b' c c' d d' : Int} (h1 : a = a') (h2 : b = b') (h3 : c = c') (h4 : d = d') : Ending.returned (.tuple #[.agg #[.bool a, .int .i64 b, .int .i64 c], .int .i64 d]) = .returned (.tuple #[.agg #[.bool a', .int .i64 b', .int .i64 c'], .int .i64 d']) := by rw [h1, h2, h3, h4]
theorem lv_one {t : List Nd} {fx : Int → Option Rat} {arr : Nat → Option Rat} {p : Nat} (e : opA t p = 1) : lvV t fx arr p = some (some (rat (t.getD p default).num (t.getD p default).den)) := by unfold lvV; rw [if_pos e]
theorem lv_fix {t : List Nd} {fx : Int → Option Rat} {arr : Nat → Option Rat} {p : Nat} (e : opA t p = 2) : lvV t fx arr p = some (fx (t.getD p default).a) := by unfold lvV; rw [if_neg (by omega), if_pos e]
theorem lv_neg {t : List Nd} {fx : Int → Option Rat} {arr : Nat → Option Rat} {p : Nat} (e : opA t p = 3) : lvV t fx arr p = ngV (some (arr (plA t (p + 1) 0))) := by unfold lvV; rw [if_neg (by omega), if_neg (by omega), if_pos e]
theorem lv_two {t : List Nd} {fx : Int → Option Rat} {arr : Nat → Option Rat} {p : Nat} (e : 4 ≤ opA t p) : lvV t fx arr p = twoV (opA t p) (some (arr (plA t (p + 1) 0))) (some (arr (plA t (p + 1) 1))) := by unfold lvV; rw [if_neg (by omega), if_neg (by omega), if_neg (by omega)]
set_option maxRecDepth 100000 in
/-- What a node is of what is below it, if all of that is known. -/
theorem ofNode_lv {t : List Nd} {x : Nat} (hx : NmA t x) (hN : opA t x = 1 → OkR (t.getD x default).num (t.getD x default).den) (hK : opA t x = 2 → I64 (t.getD x default).a) {arr : Nat → Option Rat} (hA : ∀ q r, arr q = some r → fitsR r = true)
    (hk : ∀ i, i < cnO (opA t x) → ∃ r, arr (plA t (x + 1) i) = some r) (w : World) {B bf bc n : Nat} {Df Dc : DataW Unit} (h : FacM w B bf bc n Df Dc) {l : List Fct} (hr : RelV vR Df l) (hO : OkL l) (day : Int) (hd : I64 day) (V : Option (Option Rat)) (hV : V = lvV t (fxL l day) arr x) :
    Calls Tryz.prog 171 #[.agg #[.int .i64 (t.getD x default).op, .int .i64 (t.getD x default).a, .int .i64 (t.getD x default).b, .int .i64 (t.getD x default).num, .int .i64 (t.getD x default).den], .agg #[.int .i64 (yN t arr x (cnO (opA t x)) 0), .int .i64 (yD t arr x (cnO (opA t x)) 0), .int .i64 (yN t arr x (cnO (opA t x)) 1), .int .i64 (yD t arr x (cnO (opA t x)) 1)], .int .i64 day, .pointer (some ⟨B, 0, none⟩)] w fun e w' => e = .returned (.tuple #[.agg #[.bool (vB V), .int .i64 (vN V), .int .i64 (vD V)], .int .i64 (vE V)]) ∧ Below w.heap.size w w' := by
  subst hV
  rcases hx.cn with ⟨e | e, e2⟩ | ⟨e, e2⟩ | ⟨⟨e3, e4⟩, e2⟩
  · have ho : (t.getD x default).op = 1 := e
    have hk1 := hN e
    rw [lv_one e, ho]
    refine (of_num _ _ _ _ _ _ _ _ day _ hk1 w).mono ?_
    rintro en w' ⟨rfl, hb⟩
    exact ⟨ret_val rfl hk1.num.symm hk1.den.symm rfl, hb⟩
  · have ho : (t.getD x default).op = 2 := e
    rw [lv_fix e, ho]
    refine (of_fix _ _ _ _ _ _ _ _ day w h hr (hK e) hd).mono ?_
    rintro en w' ⟨rfl, hb⟩
    obtain ⟨f1, f2, f3, f4⟩ := fx_val hO day (t.getD x default).a
    exact ⟨ret_val f1.symm f2.symm f3.symm f4.symm, hb⟩
  · have ho : (t.getD x default).op = 3 := e
    obtain ⟨p, hp⟩ := hk 0 (by omega)
    rw [lv_neg e, ho, e2, hp]
    unfold yN yD
    rw [if_pos (by omega), if_pos (by omega), if_neg (by omega), if_neg (by omega), hp]
    exact of_neg _ _ _ _ _ _ day p (hA _ _ hp) _ w
  · obtain ⟨p, hp⟩ := hk 0 (by omega)
    obtain ⟨q, hq⟩ := hk 1 (by omega)
    rw [lv_two e3, e2, hp, hq]
    unfold yN yD
    rw [if_pos (by omega), if_pos (by omega), if_pos (by omega), if_pos (by omega), hp, hq]
    have hpf := hA _ _ hp
    have hqf := hA _ _ hq
    show Calls _ _ #[.agg #[.int .i64 (opA t x), _, _, _, _], _, _, _] _ _
    show Calls Tryz.prog 171 _ w fun en w' => en = .returned (.tuple #[.agg #[.bool (vB (twoQ (opA t x) p q)), .int .i64 (vN (twoQ (opA t x) p q)), .int .i64 (vD (twoQ (opA t x) p q))], .int .i64 (vE (twoQ (opA t x) p q))]) ∧ Below w.heap.size w w'
    rcases (show opA t x = 4 ∨ opA t x = 5 ∨ opA t x = 6 ∨ opA t x = 7 ∨ opA t x = 8 by omega) with e | e | e | e | e
    · rw [e]; exact of_Plus _ _ _ _ day p q _ rfl hpf hqf _ w
    · rw [e]; exact of_Minus _ _ _ _ day p q _ rfl hpf hqf _ w
    · rw [e]; exact of_Times _ _ _ _ day p q _ rfl hpf hqf _ w
    · rw [e]; exact of_Least _ _ _ _ day p q _ (pick_least p q).symm hpf hqf _ w
    · rw [e]; exact of_Most _ _ _ _ day p q _ (pick_most p q).symm hpf hqf _ w

end Go.Proofs.YtgeneoamngfomaaGreatDoor

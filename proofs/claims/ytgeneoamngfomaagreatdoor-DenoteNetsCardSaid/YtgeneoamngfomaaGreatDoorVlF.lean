/-
  Package value: worked: what it answers.
-/
import Derived.Test.YtgeneoamngfomaaGreatDoorVlS
import Derived.RangeFuncNested
import Derived.RangeFuncLeaves
import Derived.ControlIn
import Derived.WalkMore
namespace Go.Proofs.YtgeneoamngfomaaGreatDoor
open Go.RowKit Go.Lib Go.Shelf Go.Maps
set_option linter.unusedVariables false
set_option linter.unusedSimpArgs false
attribute [local go_sem] Oper.semAt_some

theorem wpIn_scope_V {n : Nat} {P : Program} {c : Code} {Q : Exit → Act → World → Prop} {a : Act} {w : World} (h : c.wpIn Fence.wide n P (Exit.noGoto Q) a w) : (Code.scope c).wpIn Fence.wide n P Q a w := wpIn_wide.2 (wp_scope_straight (wpIn_wide.1 h))
theorem wide_rd {lp n m : Nat} {P : Program} {f : FuncId} {args : Array Value} {w : World} {R R' : Ending → World → Prop} (h : Calls P f args w R) (hm : ∀ e w', R e w' → R' e w') : Fence.wide.fn f ∧ (Fence.wide.depth.isSome = true → 1 ≤ n) ∧ CallsIn (Fence.wide.inRound lp) m P f args w R' :=
  ⟨trivial, fun h => (by cases h), (CallsIn.inRound lp (callsIn_wide.2 h)).mono hm⟩
theorem blC_new (w : World) (t : List Nd) (arr : Nat → Option Rat) (x : Nat) (ty : TypeId) : BlC (w.alloc (.cells #[.int .i64 0, .int .i64 0, .int .i64 0, .int .i64 0] ty)) t arr x w.heap.size 0 := by
  exact ⟨by rw [World.cell?_alloc_at _ _ _ _ rfl]; rfl, by rw [World.cell?_alloc_at _ _ _ _ rfl]; rfl, by rw [World.cell?_alloc_at _ _ _ _ rfl]; rfl, by rw [World.cell?_alloc_at _ _ _ _ rfl]; rfl, fun i => World.frozen?_alloc_at _ _ _ _ rfl⟩
theorem blC_put0 {W : World} {t : List Nd} {arr : Nat → Option Rat} {x Y k : Nat} (h : BlC W t arr x Y 0) (hk : k = plA t (x + 1) 0) : BlC ((W.setCell ⟨Y, 0, none⟩ (.int .i64 (vN (some (arr k))))).setCell ⟨Y, 1, none⟩ (.int .i64 (vD (some (arr k))))) t arr x Y 1 := by
  have e1 : yN t arr x 1 0 = vN (some (arr k)) := by unfold yN; rw [if_pos (by omega), hk]
  have e2 : yD t arr x 1 0 = vD (some (arr k)) := by unfold yD; rw [if_pos (by omega), hk]
  refine ⟨?_, ?_, ?_, ?_, fun i => by rw [World.frozen?_setCell, World.frozen?_setCell]; exact h.zy i⟩
  · rw [e1, cell_other (addr_ne_off (by omega)), cell_same h.y0]
  · rw [e2, cell_same ((cell_other (addr_ne_off (by omega))).trans h.y1)]
  · rw [cell_other (addr_ne_off (by omega)), cell_other (addr_ne_off (by omega))]; exact h.y2
  · rw [cell_other (addr_ne_off (by omega)), cell_other (addr_ne_off (by omega))]; exact h.y3
theorem blC_put1 {W : World} {t : List Nd} {arr : Nat → Option Rat} {x Y k : Nat} (h : BlC W t arr x Y 1) (hk : k = plA t (x + 1) 1) : BlC ((W.setCell ⟨Y, 2, none⟩ (.int .i64 (vN (some (arr k))))).setCell ⟨Y, 3, none⟩ (.int .i64 (vD (some (arr k))))) t arr x Y 2 := by
  have e1 : yN t arr x 2 1 = vN (some (arr k)) := by unfold yN; rw [if_pos (by omega), hk]
  have e2 : yD t arr x 2 1 = vD (some (arr k)) := by unfold yD; rw [if_pos (by omega), hk]
  refine ⟨?_, ?_, ?_, ?_, fun i => by rw [World.frozen?_setCell, World.frozen?_setCell]; exact h.zy i⟩
  · rw [cell_other (addr_ne_off (by omega)), cell_other (addr_ne_off (by omega))]; exact h.y0
  · rw [cell_other (addr_ne_off (by omega)), cell_other (addr_ne_off (by omega))]; exact h.y1
  · rw [e1, cell_other (addr_ne_off (by omega)), cell_same h.y2]
  · rw [e2, cell_same ((cell_other (addr_ne_off (by omega))).trans h.y3)]
theorem keeps_below {B : Nat} {W W' : World} (h : Below W.heap.size W W') : KeepsFrom B W W' := KeepsFrom.of_grownBy (grown_below h) (fun j e => by cases e)
theorem vB_none : vB none = false := rfl
theorem vN_none : vN none = 0 := rfl
theorem vD_none : vD none = 0 := rfl
theorem vE_none : vE none = 11 := rfl
theorem vE_some (v : Option Rat) : vE (some v) = 0 := by cases v <;> rfl
theorem hput_below {z : Nat} {W W' : World} {p : Nat} {x0 x1 x2 : Value} (h : Below W.heap.size W W') (hz : z ≤ W.heap.size) : Below z W (((W'.setCell ⟨z + 1 + 1 + 1 + 1 + 1, p, none⟩ x0).setCell ⟨z + 1 + 1 + 1 + 1 + 1, p + 1, none⟩ x1).setCell ⟨z + 1 + 1 + 1 + 1 + 1, p + 2, none⟩ x2) :=
  Below.setCell (Below.setCell (Below.setCell (h.mono hz) (by show z ≤ z + 1 + 1 + 1 + 1 + 1; omega) _) (by show z ≤ z + 1 + 1 + 1 + 1 + 1; omega) _) (by show z ≤ z + 1 + 1 + 1 + 1 + 1; omega) _
theorem infoVal : (Tryz.prog.info? 223).map (fun i => (i.zero, i.size, i.bytes)) = some (some (.agg #[.bool false, .int .i64 0, .int .i64 0]), 3, 24) := by kernel_rfl
/-- The values, as they are made. -/
def VOb (c : Nat) : Obj := .cells (madeCells #[.bool false, .int .i64 0, .int .i64 0] (c * 3)) 223
theorem make_vals (c : Nat) (hc : c ≤ 1000) (W : World) : (Instr.makeSlice 257 (.int .i64 (c : Int)) (.int .i64 (c : Int))).run Tryz.prog W = .ok (.slice (some ⟨W.heap.size, 0, none⟩) c c) (W.alloc (VOb c)) := by
  obtain ⟨i0, hi, hz0, hz1, hz2⟩ := info_parts infoVal
  have := run_make (P := Tryz.prog) W 257 223 i0 _ Tryz.underlying257 hi hz0 .i64 .i64 (c : Int) (c : Int) (by omega) (Int.le_refl _) (by rw [hz2]; omega) (by omega)
  rw [hz1] at this
  exact this
theorem vals_at (w : World) (c q i : Nat) (hq : q < c) (v : Value) (hi : i < 3) (hv : (#[.bool false, .int .i64 0, .int .i64 0] : Array Value)[i]? = some v) : (w.alloc (VOb c)).cell? ⟨w.heap.size, q * 3 + i, none⟩ = some v := by
  unfold VOb
  rw [World.cell?_alloc_at _ _ _ _ rfl]
  have h2 : q * 3 + i < c * 3 := by omega
  have e : (madeCells #[.bool false, .int .i64 0, .int .i64 0] (c * 3))[q * 3 + i]? = some v := by
    rw [Array.getElem?_eq_getElem (by simpa [madeCells] using h2)]
    simp only [madeCells, Array.getElem_map, Array.getElem_range]
    rcases (show i = 0 ∨ i = 1 ∨ i = 2 by omega) with rfl | rfl | rfl
    · rw [show (q * 3 + 0) % (#[Value.bool false, .int .i64 0, .int .i64 0] : Array Value).size = 0 by show (q * 3 + 0) % 3 = 0; omega]; simpa using hv
    · rw [show (q * 3 + 1) % (#[Value.bool false, .int .i64 0, .int .i64 0] : Array Value).size = 1 by show (q * 3 + 1) % 3 = 1; omega]; simpa using hv
    · rw [show (q * 3 + 2) % (#[Value.bool false, .int .i64 0, .int .i64 0] : Array Value).size = 2 by show (q * 3 + 2) % 3 = 2; omega]; simpa using hv
  exact e
/-- The world in which worked's loop begins. -/
def wkW (w : World) (c b o cap : Nat) (day : Int) (B : Nat) : World :=
  ((((((((w.alloc (.cells #[.slice (some ⟨b, o, none⟩) c cap] 22)).alloc (.cells #[.int .i64 day] 3)).alloc (.cells #[.pointer (some ⟨B, 0, none⟩)] 26)).alloc (.cells #[.bool false, .int .i64 0, .int .i64 0] 223)).alloc (.cells #[.int .i64 0] 31)).alloc (VOb c)).alloc (.cells #[.slice (some ⟨w.heap.size + 1 + 1 + 1 + 1 + 1, 0, none⟩) c c] 257)).alloc (.cells #[.slice (some ⟨b, o, none⟩) c cap] 22))
theorem frz_old {w : World} {o : Obj} {b i : Nat} (h : b < w.heap.size) (hf : w.frozen? ⟨b, i, none⟩ = false) : (w.alloc o).frozen? ⟨b, i, none⟩ = false := ((newF w o).frozen (p := ⟨b, i, none⟩) h).trans hf
theorem wk_new (w : World) (c b o cap : Nat) (day : Int) (B : Nat) (hc : 0 < c) : WkS w w.heap.size c b o cap day B (fun _ => none) (wkW w c b o cap day B) ∧ (wkW w c b o cap day B).heap.size = w.heap.size + 8 ∧ (wkW w c b o cap day B).cell? ⟨w.heap.size + 1 + 1 + 1 + 1 + 1 + 1 + 1, 0, none⟩ = some (.slice (some ⟨b, o, none⟩) c cap) := by
  unfold wkW
  generalize ha : (.cells #[.slice (some ⟨b, o, none⟩) c cap] 22 : Obj) = oa
  generalize hb : (.cells #[.int .i64 day] 3 : Obj) = ob
  generalize hd : (.cells #[.pointer (some ⟨B, 0, none⟩)] 26 : Obj) = od
  generalize he : (.cells #[.bool false, .int .i64 0, .int .i64 0] 223 : Obj) = oe
  generalize hf : (.cells #[.int .i64 0] 31 : Obj) = of
  generalize hg : (.cells #[.slice (some ⟨w.heap.size + 1 + 1 + 1 + 1 + 1, 0, none⟩) c c] 257 : Obj) = og
  have z1 : (w.alloc oa).heap.size = w.heap.size + 1 := by simp
  have z2 : ((w.alloc oa).alloc ob).heap.size = w.heap.size + 1 + 1 := by simp
  have z3 : (((w.alloc oa).alloc ob).alloc od).heap.size = w.heap.size + 1 + 1 + 1 := by simp
  have z4 : ((((w.alloc oa).alloc ob).alloc od).alloc oe).heap.size = w.heap.size + 1 + 1 + 1 + 1 := by simp
  have z5 : (((((w.alloc oa).alloc ob).alloc od).alloc oe).alloc of).heap.size = w.heap.size + 1 + 1 + 1 + 1 + 1 := by simp
  have z6 : ((((((w.alloc oa).alloc ob).alloc od).alloc oe).alloc of).alloc (VOb c)).heap.size = w.heap.size + 1 + 1 + 1 + 1 + 1 + 1 := by simp
  have z7 : (((((((w.alloc oa).alloc ob).alloc od).alloc oe).alloc of).alloc (VOb c)).alloc og).heap.size = w.heap.size + 1 + 1 + 1 + 1 + 1 + 1 + 1 := by simp
  have at1 : (w.alloc oa).cell? ⟨w.heap.size, 0, none⟩ = some (.slice (some ⟨b, o, none⟩) c cap) := by rw [← ha, World.cell?_alloc_at _ _ _ _ rfl]; rfl
  have at2 : ((w.alloc oa).alloc ob).cell? ⟨w.heap.size + 1, 0, none⟩ = some (.int .i64 day) := by rw [← hb, World.cell?_alloc_at _ _ _ _ z1.symm]; rfl
  have at3 : (((w.alloc oa).alloc ob).alloc od).cell? ⟨w.heap.size + 1 + 1, 0, none⟩ = some (.pointer (some ⟨B, 0, none⟩)) := by rw [← hd, World.cell?_alloc_at _ _ _ _ z2.symm]; rfl
  have at4 : ∀ i v, (#[.bool false, .int .i64 0, .int .i64 0] : Array Value)[i]? = some v → ((((w.alloc oa).alloc ob).alloc od).alloc oe).cell? ⟨w.heap.size + 1 + 1 + 1, i, none⟩ = some v := fun i v hi => by rw [← he, World.cell?_alloc_at _ _ _ _ z3.symm]; exact hi
  have fr4 : ∀ i, ((((w.alloc oa).alloc ob).alloc od).alloc oe).frozen? ⟨w.heap.size + 1 + 1 + 1, i, none⟩ = false := fun i => by rw [← he]; exact World.frozen?_alloc_at _ _ _ _ z3.symm
  have at5 : (((((w.alloc oa).alloc ob).alloc od).alloc oe).alloc of).cell? ⟨w.heap.size + 1 + 1 + 1 + 1, 0, none⟩ = some (.int .i64 0) := by rw [← hf, World.cell?_alloc_at _ _ _ _ z4.symm]; rfl
  have fr5 : ∀ i, (((((w.alloc oa).alloc ob).alloc od).alloc oe).alloc of).frozen? ⟨w.heap.size + 1 + 1 + 1 + 1, i, none⟩ = false := fun i => by rw [← hf]; exact World.frozen?_alloc_at _ _ _ _ z4.symm
  have at6 : ∀ q, q < c → ValC ((((((w.alloc oa).alloc ob).alloc od).alloc oe).alloc of).alloc (VOb c)) (w.heap.size + 1 + 1 + 1 + 1 + 1) (q * 3) (some none) := fun q hq => by
    rw [← z5]
    exact ⟨vals_at _ c q 0 hq _ (by omega) rfl, vals_at _ c q 1 hq _ (by omega) rfl, vals_at _ c q 2 hq _ (by omega) rfl⟩
  have fr6 : ∀ i, ((((((w.alloc oa).alloc ob).alloc od).alloc oe).alloc of).alloc (VOb c)).frozen? ⟨w.heap.size + 1 + 1 + 1 + 1 + 1, i, none⟩ = false := fun i => by unfold VOb; exact World.frozen?_alloc_at _ _ _ _ z5.symm
  have at7 : (((((((w.alloc oa).alloc ob).alloc od).alloc oe).alloc of).alloc (VOb c)).alloc og).cell? ⟨w.heap.size + 1 + 1 + 1 + 1 + 1 + 1, 0, none⟩ = some (.slice (some ⟨w.heap.size + 1 + 1 + 1 + 1 + 1, 0, none⟩) c c) := by rw [← hg, World.cell?_alloc_at _ _ _ _ z6.symm]; rfl
  have b12 := newF (w.alloc oa) ob
  have b23 := newF ((w.alloc oa).alloc ob) od
  have b34 := newF (((w.alloc oa).alloc ob).alloc od) oe
  have b45 := newF ((((w.alloc oa).alloc ob).alloc od).alloc oe) of
  have b56 := newF (((((w.alloc oa).alloc ob).alloc od).alloc oe).alloc of) (VOb c)
  have b67 := newF ((((((w.alloc oa).alloc ob).alloc od).alloc oe).alloc of).alloc (VOb c)) og
  have b78 := newF (((((((w.alloc oa).alloc ob).alloc od).alloc oe).alloc of).alloc (VOb c)).alloc og) oa
  refine ⟨⟨hc, keepF b78 (keepF b67 (keepF b56 (keepF b45 (keepF b34 (keepF b23 (keepF b12 at1)))))), keepF b78 (keepF b67 (keepF b56 (keepF b45 (keepF b34 (keepF b23 at2))))), keepF b78 (keepF b67 (keepF b56 (keepF b45 (keepF b34 at3)))), keepF b78 (keepF b67 (keepF b56 (keepF b45 (at4 0 _ rfl)))), keepF b78 (keepF b67 (keepF b56 (keepF b45 (at4 1 _ rfl)))), keepF b78 (keepF b67 (keepF b56 (keepF b45 (at4 2 _ rfl)))), keepF b78 (keepF b67 (keepF b56 at5)), keepF b78 at7, fun q hq => ((at6 q hq).keep b67).keep b78,
    fun i => ?_, fun i => ?_, fun i => ?_, onF (onF (onF (onF (onF (onF (onF (newF w oa) b12) b23) b34) b45) b56) b67) b78⟩, by simp, ?_⟩
  · exact frz_old (by omega) (frz_old (by omega) (frz_old (by omega) (frz_old (by omega) (fr4 i))))
  · exact frz_old (by omega) (frz_old (by omega) (frz_old (by omega) (fr5 i)))
  · exact frz_old (by omega) (frz_old (by omega) (fr6 i))
  · rw [← ha, World.cell?_alloc_at _ _ _ _ (by rw [ha]; exact z7.symm)]; rfl
/-- What is so between the rounds; and where something does not fit. -/
def WkI (w : World) (t : List Nd) (c b o cap : Nat) (day : Int) (B : Nat) (fx : Int → Option Rat) (pre : List (Fin c)) (W : World) : Prop := ∃ arr, runV t fx pre = some arr ∧ (∀ q r, arr q = some r → fitsR r = true) ∧ WkS w w.heap.size c b o cap day B arr W
def WkX (w : World) (t : List Nd) (c : Nat) (fx : Int → Option Rat) (cd : Code) (pre : List (Fin c)) (W : World) : Prop := cd = .ret ∧ runV t fx pre = none ∧ W.cell? ⟨w.heap.size + 1 + 1 + 1, 0, none⟩ = some (.bool false) ∧ W.cell? ⟨w.heap.size + 1 + 1 + 1, 1, none⟩ = some (.int .i64 0) ∧ W.cell? ⟨w.heap.size + 1 + 1 + 1, 2, none⟩ = some (.int .i64 0) ∧ W.cell? ⟨w.heap.size + 1 + 1 + 1 + 1, 0, none⟩ = some (.int .i64 11) ∧ Below w.heap.size w W
theorem WkI.own {w W1 : World} {t : List Nd} {c b o cap B : Nat} {day : Int} {fx : Int → Option Rat} (hz : w.heap.size ≤ W1.heap.size) : OwnFrom W1.heap.size (WkI w t c b o cap day B fx) := fun pre A D row h hg hr => by
  obtain ⟨arr, h1, h2, h3⟩ := h
  exact ⟨arr, h1, h2, h3.turn hg h3.bel.size (fun r e => ⟨Nat.le_trans hz (hr r e).1, (hr r e).2⟩)⟩
theorem WkX.own {w W1 : World} {t : List Nd} {c : Nat} {fx : Int → Option Rat} (hz : w.heap.size ≤ W1.heap.size) (cd : Code) : OwnFrom W1.heap.size (WkX w t c fx cd) := fun pre A D row h hg hr => by
  have hr' : ∀ r, row = some r → ∃ o : Obj, A.heap[r]? = some o ∧ o.isCells = false := fun r e => (hr r e).2
  obtain ⟨h1, h2, h3, h4, h5, h6, h7⟩ := h
  exact ⟨h1, h2, cell_kept h3 hg hr', cell_kept h4 hg hr', cell_kept h5 hg hr', cell_kept h6 hg hr', h7.grown hg h7.size (fun j hj => Nat.le_trans hz (hr j hj).1)⟩
set_option maxRecDepth 100000 in
set_option maxHeartbeats 2000000 in
theorem worked_any (t : List Nd) (hL : t.length ≤ 64) (hT : NmA t 0) (hsz : szA t 0 = t.length) (hN : ∀ q, q < t.length → opA t q = 1 → OkR (t.getD q default).num (t.getD q default).den) (hK : ∀ q, q < t.length → opA t q = 2 → I64 (t.getD q default).a)
    (b o cap : Nat) (hcap : t.length ≤ cap) (hcm : cap ≤ 9223372036854775807) (w : World) (hNd : NdA w b o t) (C : KndW w) {B bf bc nn : Nat} {Df Dc : DataW Unit} (h : FacM w B bf bc nn Df Dc) {l : List Fct} (hr : RelV vR Df l) (hO : OkL l) (day : Int) (hd : I64 day) :
    Calls Tryz.prog 162 #[.slice (some ⟨b, o, none⟩) t.length cap, .int .i64 day, .pointer (some ⟨B, 0, none⟩)] w fun e w' => e = .returned (.tuple #[.agg #[.bool (vB (vlA t (fxL l day) 0)), .int .i64 (vN (vlA t (fxL l day) 0)), .int .i64 (vD (vlA t (fxL l day) 0))], .int .i64 (vE (vlA t (fxL l day) 0))]) ∧ Below w.heap.size w w' := by
  have HMk := Lib.hid (fun w' => back_make (some ⟨b, o, none⟩) t.length cap w')
  obtain ⟨n, hn⟩ : ∃ n : Nat, 4 ≤ n := ⟨4, by omega⟩
  have h1 : 1 ≤ n := by omega
  obtain ⟨c, hc⟩ : ∃ c, c = t.length := ⟨_, rfl⟩
  have hc0 : (0 : Int) ≤ (c : Int) := by omega
  have hc4 : (c : Int) ≤ 64 := by omega
  have HC := Lib.hid hc
  have hmk := fun W => make_vals c (by omega) W
  rw [← hc] at HMk hcap ⊢
  obtain ⟨V0, hV0⟩ : ∃ V0, V0 = vlA t (fxL l day) 0 := ⟨_, rfl⟩
  rw [← hV0]
  have HV0 := Lib.hid hV0
  clear hV0
  have HP : Hid (t.length ≤ 64 ∧ 0 < c) := Lib.hid ⟨hL, by have := hT.tm.bd; omega⟩
  have HQ := Lib.hid (And.intro hT (And.intro hsz (And.intro hN hK)))
  clear hc hL hT hsz hN hK
  refine callsIn_wide.1 (callsIn_of_wp_marks (n := n) Tryz.func162 rfl trivial ?_ rfl)
  simp only [Tryz.ntmps162, List.size_toArray, List.length_cons, List.length_nil, Nat.reduceAdd, Nat.reduceSub, Array.replicate_succ, Array.replicate_zero, List.push_toArray, List.append_toArray, List.nil_append, List.cons_append]
  gi_wp2
  refine wpIn_scope_V ?_
  gi_wp2
  refine wpIn_label ?_
  gi_wp2
  refine wide_in2 (HMk.out _) ?_
  rintro e w2 ⟨rfl, rfl⟩
  gi_wp2
  obtain ⟨W1, hW1⟩ : ∃ W1, W1 = wkW w c b o cap day B := ⟨_, rfl⟩
  obtain ⟨hst0, hzz, hbk⟩ := wk_new w c b o cap day B HP.out.2
  rw [← hW1] at hst0 hzz hbk
  have e1 := hW1
  unfold wkW at e1
  rw [← e1]
  clear e1 hW1
  have hNb : NdA W1 b o t := hNd.keep hst0.bel
  have hb0 : b < w.heap.size := ltT (hNd 0 (by have := hst0.cp; rw [HC.out] at this; exact this)).c0
  have hk0 : 0 < w.heap.size := ltT (C.c0 0 (by omega))
  have HN := Lib.hid hNd
  have HCK := Lib.hid C
  have HM := Lib.hid h
  have HRl := Lib.hid (And.intro hr (And.intro hO hd))
  have hst := back_stops (n - 1) (w.heap.size + 1 + 1 + 1 + 1 + 1 + 1 + 1) w.heap.size t (by have := HP.out.1; omega) b o cap (by rw [← HC.out]; exact hcap) hcm hb0 c HC.out W1 (by rw [← HC.out]; exact hbk) (by omega) hNb
  have HZ := Lib.hid hzz
  clear hNd C h hr hO hd hNb hbk hzz HMk hmk
  refine wpIn_rangeFunc_ownH rfl h1 (gf := 174) (lb := #[.pointer (some ⟨w.heap.size + 1 + 1 + 1 + 1 + 1 + 1 + 1, 0, none⟩)]) rfl trivial (enters_of Tryz.func174 (by kernel_rfl) rfl)
    hst KpT.trans (fun W l o o' h hl hc _ => KpT.put (s := W1.heap.size) (by have := HZ.out; omega) W l o o' h hl hc) (Below.refl _ _) (fun _ => rfl)
    (WkI w t c b o cap day B (fxL l day))
    (WkX w t c (fxL l day))
    (WkI.own (by have := HZ.out; omega))
    (fun cd => WkX.own (by have := HZ.out; omega) cd)
    ⟨fun _ => none, rfl, fun q r h => (by cases h), hst0⟩
    (fun x a' W => ∃ X, a' = { tmps := #[.slice (some ⟨b, o, none⟩) c cap, .int .i64 day, .pointer (some ⟨B, 0, none⟩), .pointer (some ⟨w.heap.size, 0, none⟩), .pointer (some ⟨w.heap.size + 1, 0, none⟩), .pointer (some ⟨w.heap.size + 1 + 1, 0, none⟩), .pointer (some ⟨w.heap.size + 1 + 1 + 1, 0, none⟩), .pointer (some ⟨w.heap.size + 1 + 1 + 1 + 1, 0, none⟩), .pointer (some ⟨w.heap.size + 1 + 1 + 1 + 1 + 1 + 1, 0, none⟩), .int .i64 (x.1 : Int), .pointer (some ⟨X, 0, none⟩), undef, undef, undef, undef, undef, undef, undef, .slice (some ⟨b, o, none⟩) c cap, .int .i64 (c : Int), .slice (some ⟨w.heap.size + 1 + 1 + 1 + 1 + 1, 0, none⟩) c c, .slice (some ⟨b, o, none⟩) c cap, .func (.func 174) #[] #[.pointer (some ⟨w.heap.size + 1 + 1 + 1 + 1 + 1 + 1 + 1, 0, none⟩)], .int .i64 (x.1 : Int), .agg #[.int .i64 (t.getD x.1 default).op, .int .i64 (t.getD x.1 default).a, .int .i64 (t.getD x.1 default).b, .int .i64 (t.getD x.1 default).num, .int .i64 (t.getD x.1 default).den], undef, undef, undef, undef, undef, undef, undef, undef, undef, undef, undef, undef, undef, undef, undef, undef, undef, undef, undef, undef, undef, undef, undef, undef, undef, undef, undef, undef, undef, undef, undef, undef, undef, undef, undef, undef, undef, undef, undef, undef, undef, undef, undef, undef, undef, undef], defers := [] } ∧ NdC W X 0 (t.getD x.1 default))
    (fun x a' s A C row hs hg hr => by
      obtain ⟨X, e, h2⟩ := hs
      have hr' : ∀ r, row = some r → ∃ o : Obj, A.heap[r]? = some o ∧ o.isCells = false := fun r e => (hr r e).2
      exact ⟨X, e, ⟨cell_kept h2.c0 hg hr', cell_kept h2.c1 hg hr', cell_kept h2.c2 hg hr', cell_kept h2.c3 hg hr', cell_kept h2.c4 hg hr'⟩⟩)
    ?assign ?body ?done ?stop
  case assign =>
    rintro l pre x W K ⟨arr, h2, h3, h4⟩ hK
    have hzW : w.heap.size ≤ W.heap.size := Nat.le_trans (Nat.le_refl _) h4.bel.size
    dsimp only [encB]
    gi_wp2
    refine hK _ _ (KeepsFrom.of_grownBy (World.grownBy_alloc W _ none) (fun j e => by cases e)) (KpT.of hzW (newF W _)) ⟨arr, h2, h3, h4.keep hzW (newF W _)⟩ ⟨W.heap.size, rfl, ?_, ?_, ?_, ?_, ?_⟩
    all_goals rw [World.cell?_alloc_at _ _ _ _ rfl]; rfl
  case body =>
    rintro lp pre x a' W hl0 hrec ⟨arr, hrun, hfit, hS⟩ ⟨X, rfl, hX⟩ hlt
    obtain ⟨xv, hxc⟩ := x
    dsimp only at hX ⊢
    obtain ⟨hx, _⟩ := NmA.in (szA t 0) 0 (Nat.le_refl _) HQ.out.1 xv (Nat.zero_le _) (by rw [HQ.out.2.1, ← HC.out]; omega)
    have hzW := hS.bel.size
    have HBl := below_ok t (by have := HP.out.1; omega) b o cap xv (by rw [← HC.out]; exact hcap) hcm hx.tm W (HN.out.keep hS.bel) (HCK.out.keep hS.bel)
    rw [← HC.out] at HBl
    have HBl := Lib.hid HBl
    have t0 := hS.t0
    have HS := Lib.hid hS
    have HX := Lib.hid hX
    have HRun := Lib.hid hrun
    have HFit := Lib.hid hfit
    have HTx := Lib.hid hx
    clear hS hX hrun hfit hx hlt hrec hst0
    gi_wp2
    refine wide_rd HBl.out ?_
    rintro e w2 ⟨v, rfl, hown, hb2⟩
    obtain ⟨pa, pc, rfl⟩ := own_len hown
    obtain ⟨cn, hcn⟩ : ∃ cn, cn = cnO (opA t xv) := ⟨_, rfl⟩
    rw [← hcn] at hown
    rw [plL_len, ← hcn]
    have HO := Lib.hid hown
    have HCn := Lib.hid hcn
    have hcn2 : cn ≤ 2 := by rw [hcn]; rcases HTx.out.cn with ⟨_, e⟩ | ⟨_, e⟩ | ⟨_, e⟩ <;> omega
    have HS2 := Lib.hid (HS.out.keep hzW hb2)
    have HX2 := Lib.hid (HX.out.keep hb2)
    have HB2 := Lib.hid hb2
    have hz2 : w.heap.size ≤ w2.heap.size := Nat.le_trans hzW hb2.size
    have HBC := Lib.hid (blC_new w2 t arr xv 261)
    clear hown hb2 hcn HBl t0 HS HX
    gi_wp2
    have HB3 := Lib.hid (newF w2 (.cells #[.int .i64 0, .int .i64 0, .int .i64 0, .int .i64 0] 261))
    generalize hW3 : w2.alloc (.cells #[.int .i64 0, .int .i64 0, .int .i64 0, .int .i64 0] 261) = w3 at *
    clear hW3
    gi_loopw [33] (fun vi wx => ∃ i : Nat, i ≤ cn ∧ vi = .int .i64 (i : Nat) ∧ (∀ j, j < i → ∃ r, arr (plA t (xv + 1) j) = some r) ∧ BlC wx t arr xv w2.heap.size i ∧ Below w2.heap.size w2 wx) (fun vi _ => cn - (RowKit.intOf vi).toNat)
    case atStart => exact ⟨0, Nat.zero_le _, rfl, fun j hj => absurd hj (Nat.not_lt_zero j), HBC.out, HB3.out⟩
    case round =>
      obtain ⟨i, hi, rfl, hkn, hbc, hbx⟩ := hrel
      have HKn := Lib.hid hkn
      have HBc := Lib.hid hbc
      have HBx := Lib.hid hbx
      have HSx := Lib.hid (HS2.out.keep hz2 hbx)
      clear hkn hbc hbx HBC HB3
      by_cases hlt : i < cn
      · have p0 : (0 : Int) ≤ (i : Int) := by omega
        have p1 : (i : Int) < (cn : Int) := by omega
        obtain ⟨k1, k2, k3⟩ := HTx.out.kid (i := i) (by rw [← HCn.out]; exact hlt)
        have hkc : plA t (xv + 1) i < c := by rw [HC.out]; exact k1.tm.lt
        rcases (HO.out.grown HBx.out).reads with ⟨_, hx⟩ | ⟨g, cq, hv, _, _, hrow⟩
        · have := plL_len t xv cn; rw [hx] at this; simp at this; omega
        · injection hv with ev1 ev2 ev3
          subst ev1 ev3
          have hcell := hrow i (by rw [plL_len]; exact hlt)
          rw [plL_at t xv cn i hlt, Nat.zero_add] at hcell
          obtain ⟨u0, u1, u2⟩ := HSx.out.va _ hkc
          have s0 := HSx.out.s0
          obtain ⟨y0, y1, y2, y3, zy⟩ := HBc.out
          have HKc : Hid (plA t (xv + 1) i < c) := Lib.hid hkc
          have HLt := Lib.hid hlt
          obtain ⟨k, hk⟩ : ∃ k, k = plA t (xv + 1) i := ⟨_, rfl⟩
          rw [← hk] at hcell u0 u1 u2 hkc
          have HK := Lib.hid hk
          have q0 : (0 : Int) ≤ (k : Int) := by omega
          have q1 : (k : Int) < (c : Int) := by omega
          clear hk k1 k2 k3 hrow ev2 hlt
          cases ha : arr k with
          | none =>
            rw [ha] at u0 u1 u2
            have u0' : wr.cell? ⟨w.heap.size + 1 + 1 + 1 + 1 + 1, k * 3, none⟩ = some (.bool false) := u0
            clear u0 u1 u2 y0 y1 y2 y3 zy
            have hB := onF HB2.out HBx.out
            have HBb := Lib.hid hB
            clear hB
            gi_wp2
            refine ⟨keeps_below HBb.out, KpT.of hzW HBb.out, ⟨arr, ?_, HFit.out, HSx.out⟩⟩
            rw [runV_snoc, HRun.out]
            exact step_no (i := i) (by rw [← HCn.out]; exact HLt.out) (by rw [← HK.out]; exact ha)
          | some r =>
            rw [ha] at u0 u1 u2
            have u0' : wr.cell? ⟨w.heap.size + 1 + 1 + 1 + 1 + 1, k * 3, none⟩ = some (.bool true) := u0
            clear u0
            have HVk : Hid (vN (some (some r)) = vN (some (arr k)) ∧ vD (some (some r)) = vD (some (arr k))) := Lib.hid (by rw [ha]; exact ⟨rfl, rfl⟩)
            generalize vN (some (some r)) = rn at *
            generalize vD (some (some r)) = rd at *
            have HA := Lib.hid ha
            have hi01 : i = 0 ∨ i = 1 := by omega
            clear ha
            rcases hi01 with rfl | rfl
            · have z0 := zy 0
              have z1 := zy 1
              clear zy
              gi_wp2
              go_roundw
              case rel =>
                have hb := blC_put0 (k := k) HBc.out HK.out
                rw [← HVk.out.1, ← HVk.out.2] at hb
                exact ⟨1, HLt.out, rfl, fun j hj => ⟨r, by rw [show j = 0 by omega, ← HK.out]; exact HA.out⟩, hb, Below.setCell (Below.setCell HBx.out (Nat.le_refl _) _) (Nat.le_refl _) _⟩
              case measure => have := HLt.out; simp [RowKit.intOf]; omega
            · have z2 := zy 2
              have z3 := zy 3
              clear zy
              gi_wp2
              go_roundw
              case rel =>
                have hb := blC_put1 (k := k) HBc.out HK.out
                rw [← HVk.out.1, ← HVk.out.2] at hb
                exact ⟨2, HLt.out, rfl, fun j hj => by
                  rcases (show j = 0 ∨ j = 1 by omega) with rfl | rfl
                  · exact HKn.out 0 (by omega)
                  · exact ⟨r, by rw [← HK.out]; exact HA.out⟩, hb, Below.setCell (Below.setCell HBx.out (Nat.le_refl _) _) (Nat.le_refl _) _⟩
              case measure => have := HLt.out; simp [RowKit.intOf]; omega
      · obtain rfl : i = cn := by omega
        have p1 : ¬ (i : Int) < (i : Int) := by omega
        have hbW := onF HB2.out HBx.out
        obtain ⟨V, hV⟩ : ∃ V, V = lvV t (fxL l day) arr xv := ⟨_, rfl⟩
        have HOf := ofNode_lv HTx.out (HQ.out.2.2.1 xv (by rw [← HC.out]; exact hxc)) (HQ.out.2.2.2 xv (by rw [← HC.out]; exact hxc)) HFit.out (by rw [← HCn.out]; exact HKn.out) wr (HM.out.keep HSx.out.bel) HRl.out.1 HRl.out.2.1 day HRl.out.2.2 V hV
        rw [← HCn.out] at HOf
        have HOf := Lib.hid HOf
        have HV := Lib.hid hV
        have HBW := Lib.hid hbW
        obtain ⟨y0, y1, y2, y3, zy⟩ := HBc.out
        obtain ⟨x0, x1, x2, x3, x4⟩ := HX2.out.keep HBx.out
        have HXk := Lib.hid (fun (j : Nat) (hj : j < cnO (opA t xv)) => HKn.out j (by rw [HCn.out]; exact hj))
        clear hV hbW zy hlt hi
        have d0 := HSx.out.d0
        have f0 := HSx.out.f0
        generalize t.getD xv default = nd at HOf x0 x1 x2 x3 x4 ⊢
        generalize yN t arr xv i 0 = a0 at *
        generalize yD t arr xv i 0 = a1 at *
        generalize yN t arr xv i 1 = a2 at *
        generalize yD t arr xv i 1 = a3 at *
        obtain ⟨no, na, nb, nn1, nd1⟩ := nd
        dsimp only at x0 x1 x2 x3 x4 HOf ⊢
        rcases V with _ | v
        · rw [vB_none, vN_none, vD_none, vE_none] at HOf
          gi_wp2
          refine wide_rd HOf.out ?_
          rintro e w5 ⟨rfl, hb5⟩
          have HB5 := Lib.hid (onF HBW.out hb5)
          have HB45 := Lib.hid hb5
          have HS5 := Lib.hid (HSx.out.keep (Nat.le_trans hzW HBW.out.size) hb5)
          have HS6 := fun ob => HS5.out.keep (Nat.le_trans hzW HB5.out.size) (newF w5 ob)
          have r0 := fun ob => (HS6 ob).r0
          have r1 := fun ob => (HS6 ob).r1
          have r2 := fun ob => (HS6 ob).r2
          have e0 := fun ob => (HS6 ob).e0
          have z0 := fun ob => (HS6 ob).zr 0
          have z1 := fun ob => (HS6 ob).zr 1
          have z2 := fun ob => (HS6 ob).zr 2
          have z3 := fun ob => (HS6 ob).ze 0
          clear HS6 x0 x1 x2 x3 x4 y0 y1 y2 y3 d0 f0 hb5 HOf
          gi_wp2
          have hB6 := onF HB5.out (newF w5 (.cells #[.bool false, .int .i64 0, .int .i64 0] 223))
          refine ⟨(keeps_below hB6).trans ((((KeepsOthers.setCell _ _ _).trans (KeepsOthers.setCell _ _ _)).trans ((KeepsOthers.setCell _ _ _).trans (KeepsOthers.setCell _ _ _))).from _), rfl, ?_, ?_, ?_, ?_, ?_, ?_⟩
          · rw [runV_snoc, HRun.out]
            exact step_over HXk.out HV.out.symm
          · rw [cell_other (addr_ne_block (by omega)), cell_other (addr_ne_off (by omega)), cell_other (addr_ne_off (by omega)), cell_same (r0 _)]
          · rw [cell_other (addr_ne_block (by omega)), cell_other (addr_ne_off (by omega)), cell_same ((cell_other (addr_ne_off (by omega))).trans (r1 _))]
          · rw [cell_other (addr_ne_block (by omega)), cell_same ((cell_other (addr_ne_off (by omega))).trans ((cell_other (addr_ne_off (by omega))).trans (r2 _)))]
          · rw [cell_same ((cell_other (addr_ne_block (by omega))).trans ((cell_other (addr_ne_block (by omega))).trans ((cell_other (addr_ne_block (by omega))).trans (e0 _))))]
          · exact Below.setCell (Below.setCell (Below.setCell (Below.setCell (HSx.out.bel.trans ((onF HB45.out (newF w5 _)).mono (Nat.le_trans hzW HBW.out.size))) (by show w.heap.size ≤ w.heap.size + 1 + 1 + 1; omega) _) (by show w.heap.size ≤ w.heap.size + 1 + 1 + 1; omega) _) (by show w.heap.size ≤ w.heap.size + 1 + 1 + 1; omega) _) (by show w.heap.size ≤ w.heap.size + 1 + 1 + 1 + 1; omega) _
        · rw [vE_some] at HOf
          generalize hvb : vB (some v) = vb at *
          generalize hvn : vN (some v) = vn at *
          generalize hvd : vD (some v) = vd at *
          have HVv := Lib.hid (And.intro hvb (And.intro hvn hvd))
          clear hvb hvn hvd
          gi_wp2
          refine wide_rd HOf.out ?_
          rintro e w5 ⟨rfl, hb5⟩
          have HB5 := Lib.hid (onF HBW.out hb5)
          have HB45 := Lib.hid hb5
          have HS5 := Lib.hid (HSx.out.keep (Nat.le_trans hzW HBW.out.size) hb5)
          have HS6 := fun ob => HS5.out.keep (Nat.le_trans hzW HB5.out.size) (newF w5 ob)
          have s0 := fun ob => (HS6 ob).s0
          have q0 := fun ob => ((HS6 ob).va xv hxc).c0
          have q1 := fun ob => ((HS6 ob).va xv hxc).c1
          have q2 := fun ob => ((HS6 ob).va xv hxc).c2
          have z0 := fun ob => (HS6 ob).zv (xv * 3)
          have z1 := fun ob => (HS6 ob).zv (xv * 3 + 1)
          have z2 := fun ob => (HS6 ob).zv (xv * 3 + 2)
          have n0 : (0 : Int) ≤ (xv : Int) := by omega
          have n1 : (xv : Int) < (c : Int) := by omega
          clear HS6 x0 x1 x2 x3 x4 y0 y1 y2 y3 d0 f0 hb5 HOf
          gi_wp2
          have hB6 := onF HB5.out (newF w5 (.cells #[.bool vb, .int .i64 vn, .int .i64 vd] 223))
          have hput := (HS5.out.keep (Nat.le_trans hzW HB5.out.size) (newF w5 (.cells #[.bool vb, .int .i64 vn, .int .i64 vd] 223))).put hxc v
          rw [HVv.out.1, HVv.out.2.1, HVv.out.2.2] at hput
          have hstep := step_yes HXk.out HV.out.symm
          refine ⟨(keeps_below hB6).trans (((KeepsOthers.setCell _ _ _).trans ((KeepsOthers.setCell _ _ _).trans (KeepsOthers.setCell _ _ _))).from _), ⟨hput_below hB6 hzW, fun u hu => (cell3_ne (.inl (by omega))).trans (keepF hB6 hu)⟩, ⟨_, ?_, ?_, hput⟩⟩
          · rw [runV_snoc, HRun.out]
            exact hstep
          · exact run_fits HC.out HQ.out.2.2.1 (fx_fits HRl.out.2.1 day) HFit.out (by rw [← HC.out]; exact hxc) hstep
  case done =>
    rintro D ys W hD rfl ⟨arr, hrun, hfit, hS⟩ hKd
    have hv := ((run_down (fx := fxL l day) HQ.out.1 HQ.out.2.1 HC.out c (Nat.le_refl _)).1 arr hrun).1 0 (by omega) hS.cp
    have hva := hS.va 0 hS.cp
    have u0 : W.cell? ⟨w.heap.size + 1 + 1 + 1 + 1 + 1, 0, none⟩ = some (.bool (vB (some (arr 0)))) := hva.c0
    have u1 : W.cell? ⟨w.heap.size + 1 + 1 + 1 + 1 + 1, 1, none⟩ = some (.int .i64 (vN (some (arr 0)))) := hva.c1
    have u2 : W.cell? ⟨w.heap.size + 1 + 1 + 1 + 1 + 1, 2, none⟩ = some (.int .i64 (vD (some (arr 0)))) := hva.c2
    have hq : vB V0 = vB (some (arr 0)) ∧ vN V0 = vN (some (arr 0)) ∧ vD V0 = vD (some (arr 0)) ∧ vE V0 = 0 := by rw [HV0.out, hv, vE_some]; exact ⟨rfl, rfl, rfl, rfl⟩
    have s0 := hS.s0
    have r0 := hS.r0
    have r1 := hS.r1
    have r2 := hS.r2
    have e0 := hS.e0
    have z0 := hS.zr 0
    have z1 := hS.zr 1
    have z2 := hS.zr 2
    have z3 := hS.ze 0
    have n1 : (0 : Int) < (c : Int) := by have := hS.cp; omega
    have HBl := Lib.hid hS.bel
    generalize vB (some (arr 0)) = vb at *
    generalize vN (some (arr 0)) = vn at *
    generalize vD (some (arr 0)) = vd at *
    have HQv := Lib.hid hq
    clear hv hva hS hfit hrun hst hst0 hq
    gi_wp2
    try rw [Exit.noGoto_ret]
    have hKw := (((KeepsOthers.setCell W ⟨w.heap.size + 1 + 1 + 1, 0, none⟩ (.bool vb)).trans (KeepsOthers.setCell _ ⟨w.heap.size + 1 + 1 + 1, 1, none⟩ (.int .i64 vn))).trans ((KeepsOthers.setCell _ ⟨w.heap.size + 1 + 1 + 1, 2, none⟩ (.int .i64 vd)).trans (KeepsOthers.setCell _ ⟨w.heap.size + 1 + 1 + 1 + 1, 0, none⟩ (.int .i64 0)))).same D _ hKd rfl
    have hbw : Below w.heap.size w ((((W.setCell ⟨w.heap.size + 1 + 1 + 1, 0, none⟩ (.bool vb)).setCell ⟨w.heap.size + 1 + 1 + 1, 1, none⟩ (.int .i64 vn)).setCell ⟨w.heap.size + 1 + 1 + 1, 2, none⟩ (.int .i64 vd)).setCell ⟨w.heap.size + 1 + 1 + 1 + 1, 0, none⟩ (.int .i64 0)) := Below.setCell (Below.setCell (Below.setCell (Below.setCell HBl.out (by show w.heap.size ≤ w.heap.size + 1 + 1 + 1; omega) _) (by show w.heap.size ≤ w.heap.size + 1 + 1 + 1; omega) _) (by show w.heap.size ≤ w.heap.size + 1 + 1 + 1; omega) _) (by show w.heap.size ≤ w.heap.size + 1 + 1 + 1 + 1; omega) _
    refine ⟨by simp, .inl ⟨_, _, rfl, run_takeDeferred hKw, ?_⟩⟩
    have f0 : ((((W.setCell ⟨w.heap.size + 1 + 1 + 1, 0, none⟩ (.bool vb)).setCell ⟨w.heap.size + 1 + 1 + 1, 1, none⟩ (.int .i64 vn)).setCell ⟨w.heap.size + 1 + 1 + 1, 2, none⟩ (.int .i64 vd)).setCell ⟨w.heap.size + 1 + 1 + 1 + 1, 0, none⟩ (.int .i64 0)).cell? ⟨w.heap.size + 1 + 1 + 1, 0, none⟩ = some (.bool vb) := by
      rw [cell_other (addr_ne_block (by omega)), cell_other (addr_ne_off (by omega)), cell_other (addr_ne_off (by omega)), cell_same r0]
    have f1 : ((((W.setCell ⟨w.heap.size + 1 + 1 + 1, 0, none⟩ (.bool vb)).setCell ⟨w.heap.size + 1 + 1 + 1, 1, none⟩ (.int .i64 vn)).setCell ⟨w.heap.size + 1 + 1 + 1, 2, none⟩ (.int .i64 vd)).setCell ⟨w.heap.size + 1 + 1 + 1 + 1, 0, none⟩ (.int .i64 0)).cell? ⟨w.heap.size + 1 + 1 + 1, 1, none⟩ = some (.int .i64 vn) := by
      rw [cell_other (addr_ne_block (by omega)), cell_other (addr_ne_off (by omega)), cell_same ((cell_other (addr_ne_off (by omega))).trans r1)]
    have f2 : ((((W.setCell ⟨w.heap.size + 1 + 1 + 1, 0, none⟩ (.bool vb)).setCell ⟨w.heap.size + 1 + 1 + 1, 1, none⟩ (.int .i64 vn)).setCell ⟨w.heap.size + 1 + 1 + 1, 2, none⟩ (.int .i64 vd)).setCell ⟨w.heap.size + 1 + 1 + 1 + 1, 0, none⟩ (.int .i64 0)).cell? ⟨w.heap.size + 1 + 1 + 1, 2, none⟩ = some (.int .i64 vd) := by
      rw [cell_other (addr_ne_block (by omega)), cell_same ((cell_other (addr_ne_off (by omega))).trans ((cell_other (addr_ne_off (by omega))).trans r2))]
    have f3 : ((((W.setCell ⟨w.heap.size + 1 + 1 + 1, 0, none⟩ (.bool vb)).setCell ⟨w.heap.size + 1 + 1 + 1, 1, none⟩ (.int .i64 vn)).setCell ⟨w.heap.size + 1 + 1 + 1, 2, none⟩ (.int .i64 vd)).setCell ⟨w.heap.size + 1 + 1 + 1 + 1, 0, none⟩ (.int .i64 0)).cell? ⟨w.heap.size + 1 + 1 + 1 + 1, 0, none⟩ = some (.int .i64 0) := by
      rw [cell_same ((cell_other (addr_ne_block (by omega))).trans ((cell_other (addr_ne_block (by omega))).trans ((cell_other (addr_ne_block (by omega))).trans e0)))]
    generalize ((((W.setCell ⟨w.heap.size + 1 + 1 + 1, 0, none⟩ (.bool vb)).setCell ⟨w.heap.size + 1 + 1 + 1, 1, none⟩ (.int .i64 vn)).setCell ⟨w.heap.size + 1 + 1 + 1, 2, none⟩ (.int .i64 vd)).setCell ⟨w.heap.size + 1 + 1 + 1 + 1, 0, none⟩ (.int .i64 0)) = W5 at *
    have hrow : ∀ r, some D = some r → ∃ o : Obj, W5.heap[r]? = some o ∧ o.isCells = false := fun r e => by cases e; exact ⟨_, hKw, rfl⟩
    have g0 := cell_kept f0 (grownBy_putObj' W5 D (.deferred none)) hrow
    have g1 := cell_kept f1 (grownBy_putObj' W5 D (.deferred none)) hrow
    have g2 := cell_kept f2 (grownBy_putObj' W5 D (.deferred none)) hrow
    have g3 := cell_kept f3 (grownBy_putObj' W5 D (.deferred none)) hrow
    exact ⟨.tuple #[.agg #[.bool vb, .int .i64 vn, .int .i64 vd], .int .i64 0], by simp [results, Tryz.results162, go_sem, g0, g1, g2, g3], ret_val HQv.out.1.symm HQv.out.2.1.symm HQv.out.2.2.1.symm HQv.out.2.2.2.symm, hbw.trans (belowK_b (w := w) (Nat.le_refl _) W5 D _ _ (by have := HZ.out; omega) hKw rfl rfl)⟩
  case stop =>
    rintro D cd pre W hD ⟨k, hk, rfl⟩ ⟨rfl, hrun, r0, r1, r2, e0, hbl⟩ hKd
    have hv := (run_down (fx := fxL l day) HQ.out.1 HQ.out.2.1 HC.out k hk).2 hrun
    have hq : vB V0 = false ∧ vN V0 = 0 ∧ vD V0 = 0 ∧ vE V0 = 11 := by rw [HV0.out, hv]; exact ⟨rfl, rfl, rfl, rfl⟩
    have HQv := Lib.hid hq
    clear hq hv hrun hst hst0
    gi_wp2
    try rw [Exit.noGoto_ret]
    refine ⟨by simp, .inl ⟨_, _, rfl, run_takeDeferred hKd, ?_⟩⟩
    have hrow : ∀ r, some D = some r → ∃ o : Obj, W.heap[r]? = some o ∧ o.isCells = false := fun r e => by cases e; exact ⟨_, hKd, rfl⟩
    have g0 := cell_kept r0 (grownBy_putObj' W D (.deferred none)) hrow
    have g1 := cell_kept r1 (grownBy_putObj' W D (.deferred none)) hrow
    have g2 := cell_kept r2 (grownBy_putObj' W D (.deferred none)) hrow
    have g3 := cell_kept e0 (grownBy_putObj' W D (.deferred none)) hrow
    exact ⟨.tuple #[.agg #[.bool false, .int .i64 0, .int .i64 0], .int .i64 11], by simp [results, Tryz.results162, go_sem, g0, g1, g2, g3], ret_val HQv.out.1.symm HQv.out.2.1.symm HQv.out.2.2.1.symm HQv.out.2.2.2.symm, hbl.trans (belowK_b (w := w) (Nat.le_refl _) W D _ _ (by have := HZ.out; omega) hKd rfl rfl)⟩

end Go.Proofs.YtgeneoamngfomaaGreatDoor

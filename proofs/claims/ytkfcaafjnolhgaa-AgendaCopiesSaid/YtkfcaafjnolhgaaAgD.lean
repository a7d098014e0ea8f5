/-
  Package agenda: the queue's Len, Less, Swap, Push, Pop: what they answer.
-/
import Derived.Test.YtkfcaafjnolhgaaAgB
import Derived.StillTailTactics
import Derived.Deep.RegionLaw
import Derived.BigRegion
import Derived.WalkSmall
import Derived.IntWalk
namespace Go.Proofs.Ytkfcaafjnolhgaa
open Go.RowKit Go.Lib Go.Maps Go.Sort
set_option linter.unusedVariables false
set_option linter.unusedSimpArgs false

set_option maxRecDepth 100000 in
theorem qlen_any (w : World) {base q bm : Nat} {lv : Value} {l : List It} {D : DataW Unit} (h : QuM w base q bm lv l D) : Calls Try.prog 28 #[.pointer (some ⟨q, 0, none⟩)] w fun e w' => e = .returned (.int .i64 (l.length : Nat)) ∧ w' = w := by
  have c0 := h.c0
  obtain ⟨a, cap, rfl⟩ := h.hl.slice
  go_enter Try.func28, Try.ntmps28
  go_wp2_with fail
  go_ret
  exact ⟨rfl, rfl⟩
set_option maxRecDepth 100000 in
set_option maxHeartbeats 2000000 in
theorem qless_any (w : World) {base q bm : Nat} {lv : Value} {l : List It} {D : DataW Unit} (h : QuM w base q bm lv l D) {i j : Nat} (hi : i < l.length) (hj : j < l.length) : Calls Try.prog 91 #[.pointer (some ⟨q, 0, none⟩), .int .i64 (i : Nat), .int .i64 (j : Nat)] w fun e w' => e = .returned (.bool (decide (bfI (itm l i) (itm l j)))) ∧ Below w.heap.size w w' := by
  have c0 := h.c0
  obtain ⟨g, cap, rfl, hc1, hc2, _, _, _, hc⟩ := h.at (by omega)
  obtain ⟨x0, x1, x2⟩ := hc i hi
  obtain ⟨y0, y1, y2⟩ := hc j hj
  have p0 : (0 : Int) ≤ (i : Int) := by omega
  have p1 : (i : Int) < (l.length : Int) := by omega
  have p2 : (0 : Int) ≤ (j : Int) := by omega
  have p3 : (j : Int) < (l.length : Int) := by omega
  have HC := Lib.hid (fun (w' : World) => (itcmp_any w' (itm l i) (itm l j)).mono fun e w2 he => (show _ ∧ Below w'.heap.size w' w2 from by obtain ⟨h1, q', os', rfl⟩ := he; exact ⟨h1, below_grow _ _ _⟩))
  have hd : decide (bfI (itm l i) (itm l j)) = decide (cmpIt (itm l i) (itm l j) < 0) := by rw [decide_eq_decide]; exact (cmpIt_lt _ _).symm
  rw [hd]
  clear hc h hd
  generalize itm l i = x at *
  generalize itm l j = y at *
  generalize cmpIt x y = c at *
  go_enter Try.func91, Try.ntmps91
  go_wp2_with fail
  go_region_held3 (fun w' => w'.cell? ⟨q, 0, none⟩ = some (.slice (some ⟨g, 0, none⟩) l.length cap) ∧ w'.cell? ⟨g, i * 3, none⟩ = some (.int .i64 x.d) ∧ w'.cell? ⟨g, i * 3 + 1, none⟩ = some (.int .i64 x.no) ∧ w'.cell? ⟨g, i * 3 + 2, none⟩ = some (.int .i64 x.tag) ∧ w'.cell? ⟨g, j * 3, none⟩ = some (.int .i64 y.d) ∧ w'.cell? ⟨g, j * 3 + 1, none⟩ = some (.int .i64 y.no) ∧ w'.cell? ⟨g, j * 3 + 2, none⟩ = some (.int .i64 y.tag)) (first | (with_reducible exact ⟨c0, x0, x1, x2, y0, y1, y2⟩) | go_keep)
    (first
    | (go_at_call 35; (with_reducible refine (HC.out _).mono ?_); rintro e w' ⟨rfl, hb⟩; have c0 := keepF hb c0; have x0 := keepF hb x0; have x1 := keepF hb x1; have x2 := keepF hb x2; have y0 := keepF hb y0; have y1 := keepF hb y1; have y2 := keepF hb y2))
  go_wp2_with fail
  go_ret
  exact ⟨rfl, undrewB hb⟩

set_option maxRecDepth 100000 in
set_option maxHeartbeats 4000000 in
theorem qswap_any (w : World) {base q bm : Nat} {lv : Value} {l : List It} {D : DataW Unit} (h : QuM w base q bm lv l D) {i j : Nat} (hi : i < l.length) (hj : j < l.length) (hne : i ≠ j) (hk : ∀ x ∈ l, I64 x.no) (hlen : l.length ≤ 100000) (hD : Maps.size D ≤ 100000) : Calls Try.prog 94 #[.pointer (some ⟨q, 0, none⟩), .int .i64 (i : Nat), .int .i64 (j : Nat)] w fun e w' => e = .returned (.tuple #[]) ∧ QuM w' base q bm lv (swI l i j) ((D.put (kI (itm l j).no) (intD (i : Nat))).put (kI (itm l i).no) (intD (j : Nat))) ∧ Off (FpQ q bm lv) w w' := by
  have c0 := h.c0
  have c1 := h.c1
  obtain ⟨g, cap, rfl, hc1, hc2, hgq, hgm, _, hc⟩ := h.at (by omega)
  obtain ⟨x0, x1, x2⟩ := hc i hi
  obtain ⟨y0, y1, y2⟩ := hc j hj
  have p0 : (0 : Int) ≤ (i : Int) := by omega
  have p1 : (i : Int) < (l.length : Int) := by omega
  have p2 : (0 : Int) ≤ (j : Int) := by omega
  have p3 : (j : Int) < (l.length : Int) := by omega
  have fz : ∀ k, w.frozen? ⟨g, k, none⟩ = false := fun k => h.fz rfl k
  have fi0 := fz (i * 3)
  have fi1 := fz (i * 3 + 1)
  have fi2 := fz (i * 3 + 2)
  have fj0 := fz (j * 3)
  have fj1 := fz (j * 3 + 1)
  have fj2 := fz (j * 3 + 2)
  have kx : I64 (itm l i).no := hk _ (by rw [itm_get hi]; exact List.getElem_mem hi)
  have ky : I64 (itm l j).no := hk _ (by rw [itm_get hj]; exact List.getElem_mem hj)
  have ki : I64 (i : Nat) := ⟨by omega, by omega⟩
  have kj : I64 (j : Nat) := ⟨by omega, by omega⟩
  obtain ⟨w1, hw1⟩ : ∃ w1, w1 = ((((((w.setCell ⟨g, i * 3, none⟩ (.int .i64 (itm l j).d)).setCell ⟨g, i * 3 + 1, none⟩ (.int .i64 (itm l j).no)).setCell ⟨g, i * 3 + 2, none⟩ (.int .i64 (itm l j).tag)).setCell ⟨g, j * 3, none⟩ (.int .i64 (itm l i).d)).setCell ⟨g, j * 3 + 1, none⟩ (.int .i64 (itm l i).no)).setCell ⟨g, j * 3 + 2, none⟩ (.int .i64 (itm l i).tag)).drew := ⟨_, rfl⟩
  obtain ⟨h1, o1⟩ := h.put3 rfl hi (itm l j)
  obtain ⟨h2, o2⟩ := h1.put3 (List.length_set ..).symm (i := j) (by rw [List.length_set]; exact hj) (itm l i)
  have HM1 := Lib.hid (show QuM w1 base q bm (.slice (some ⟨g, 0, none⟩) l.length cap) (swI l i j) D from hw1 ▸ h2.drew)
  have HO1 := Lib.hid (show Off (FpQ q bm (.slice (some ⟨g, 0, none⟩) l.length cap)) w w1 from hw1 ▸ (o1.both o2).drew)
  have s1 : itm (swI l i j) i = itm l j := by rw [itm_sw hi hj, if_neg hne, if_pos rfl]
  have s2 : itm (swI l i j) j = itm l i := by rw [itm_sw hi hj, if_pos rfl]
  obtain ⟨w2, hr2, hM2, hO2⟩ := HM1.out.drew.store (by omega) ky ki
  obtain ⟨w3, hr3, hM3, hO3⟩ := hM2.drew.store (by have := size_put_le h.tidy (kI (itm l j).no) (intD (i : Nat)); omega) kx kj
  have HE := Lib.hid (And.intro hM3 (HO1.out.both (hO2.undrew.both hO3.undrew)))
  obtain ⟨g', cap', e', _, _, _, _, _, hcc⟩ := HM1.out.at (by rw [swI_len]; omega)
  rw [swI_len] at e' hcc
  injection e' with e1 _ _
  injection e1 with e1
  injection e1 with e1
  subst e1
  have u1 := (hcc i hi).2.1
  have d0 := HM1.out.c0
  have d1 := HM1.out.c1
  obtain ⟨g'', cap'', e', _, _, _, _, _, hcd⟩ := hM2.at (by rw [swI_len]; omega)
  rw [swI_len] at e' hcd
  injection e' with e1 _ _
  injection e1 with e1
  injection e1 with e1
  subst e1
  have v1 := (hcd j hj).2.1
  have m0 := hM2.c0
  have m1 := hM2.c1
  rw [s1] at u1
  rw [s2] at v1
  clear hc hcc hcd fz h h1 h2 o1 o2 HM1 HO1 hM2 hM3 hO2 hO3 s1 s2
  generalize itm l i = x at *
  generalize itm l j = y at *
  go_enter Try.func94, Try.ntmps94
  go_wp2_with fail
  go_region
  all_goals rw [← hw1]
  all_goals clear hw1 c0 c1 x0 x1 x2 y0 y1 y2 fi0 fi1 fi2 fj0 fj1 fj2
  all_goals go_wp2_with fail
  all_goals go_region
  all_goals go_wp2_with fail
  all_goals go_region
  all_goals go_wp2_with fail
  all_goals go_end0
  all_goals exact ⟨rfl, HE.out⟩
theorem ta_item (v : Value) (w : World) : (Instr.typeAssert (.iface 31 v) 20 31 false).run Try.prog w = .ok v w := by
  simp [Instr.typeAssert, run_underlying Try.underlying31, go_sem, Result.andThen]
/-- A cell is another one. -/
theorem Off.set (w : World) (q k : Nat) (v : Value) : Off (fun b => b = q) w (w.setCell ⟨q, k, none⟩ v) := ⟨rfl, rfl, rfl, by simp, fun b hb hn => Below.heap_setCell _ _ _ _ hn⟩
/-- One more, in a row of its own. -/
theorem QuM.pushed {w w1 w5 : World} {base q bm : Nat} {lv lv' : Value} {l l' : List It} {D : DataW Unit} (h : QuM w base q bm lv l D) (hb : Below w.heap.size w w1) (hg : w1.grownBy w5 lv.ownBlock) (ho : OwnX itL 3 31 w5 base lv' l') (hat : lv'.ownBlock = lv.ownBlock ∨ lv'.ownBlock = some w1.heap.size) : QuM (w5.setCell ⟨q, 0, none⟩ lv') base q bm lv' l' D ∧ Off (FpQ q bm lv) w (w5.setCell ⟨q, 0, none⟩ lv') ∧ (∀ k, FpQ q bm lv' k → FpQ q bm lv k ∨ w.heap.size ≤ k) ∧ w5.cell? ⟨q, 0, none⟩ = some lv ∧ w5.frozen? ⟨q, 0, none⟩ = false := by
  have hq : q < w.heap.size := ltF h.c0
  have hm : bm < w.heap.size := h.hm.lt
  have nq : lv'.ownBlock ≠ some q := by
    rcases hat with e | e
    · rw [e]; exact h.nq
    · rw [e]; intro c; injection c with c; have := hb.size; omega
  have nm : lv'.ownBlock ≠ some bm := by
    rcases hat with e | e
    · rw [e]; exact h.nm
    · rw [e]; intro c; injection c with c; have := hb.size; omega
  have o1 : Off (fun k => lv.ownBlock = some k) w w5 := (Off.of (F := fun k => lv.ownBlock = some k) hb).trans (Off.grown (F := fun k => lv.ownBlock = some k) hg (fun k e => e)) (fun k c => .inl c)
  have o2 := Off.set w5 q 0 lv'
  have e0 := o1.cell h.c0 h.nq
  have e1 := o1.cell h.c1 h.nq
  have f0 := (o1.frozen (ltF h.c0) h.nq).trans h.f0
  refine ⟨⟨cell_same e0, (cell_other (fun e => by cases e)).trans e1, by rw [World.frozen?_setCell]; exact f0, o2.row ho (fun g hg e => nq (by rw [hg, e])), o2.map (o1.map h.hm h.nm) (fun e => h.qm e.symm), nq, nm, h.qm, h.bb⟩, ?_, ?_, e0, f0⟩
  · exact (o1.mono (F' := FpQ q bm lv) (fun k e => .inr (.inr e))).trans o2 (fun k e => .inl (.inl e))
  · rintro k (e | e | e)
    · exact .inl (.inl e)
    · exact .inl (.inr (.inl e))
    · rcases hat with c | c
      · exact .inl (.inr (.inr (c ▸ e)))
      · rw [c] at e; injection e with e; exact .inr (by have := hb.size; omega)
/-- A slice of the same row. -/
theorem QuM.sliced {w w1 : World} {base q bm : Nat} {lv lv' : Value} {l l' : List It} {D : DataW Unit} (h : QuM w base q bm lv l D) (hb : Below w.heap.size w w1) (ho : OwnX itL 3 31 w1 base lv' l') (e : lv'.ownBlock = lv.ownBlock) : QuM (w1.setCell ⟨q, 0, none⟩ lv') base q bm lv' l' D ∧ Off (FpQ q bm lv) w (w1.setCell ⟨q, 0, none⟩ lv') ∧ (∀ k, FpQ q bm lv' k → FpQ q bm lv k) := by
  obtain ⟨h1, h2, h3, _⟩ := h.pushed hb (w5 := w1) ⟨rfl, rfl, rfl, Nat.le_refl _, fun _ _ _ => rfl⟩ ho (.inl e)
  exact ⟨h1, h2, fun k c => by
    rcases c with c | c | c
    · exact .inl c
    · exact .inr (.inl c)
    · exact .inr (.inr (e ▸ c))⟩
set_option maxRecDepth 100000 in
set_option maxHeartbeats 2000000 in
theorem qpush_any (w : World) {base q bm : Nat} {lv : Value} {l : List It} {D : DataW Unit} (h : QuM w base q bm lv l D) (x : It) (hlen : l.length ≤ 1000) : Calls Try.prog 93 #[.pointer (some ⟨q, 0, none⟩), .iface 31 (.agg #[.int .i64 x.d, .int .i64 x.no, .int .i64 x.tag])] w fun e w' => e = .returned (.tuple #[]) ∧ ∃ lv', QuM w' base q bm lv' (l ++ [x]) D ∧ Off (FpQ q bm lv) w w' ∧ (∀ k, FpQ q bm lv' k → FpQ q bm lv k ∨ w.heap.size ≤ k) := by
  have c0 := h.c0
  have f0 := h.f0
  have hbw : base ≤ w.heap.size := Nat.le_trans h.bb.1 (Nat.le_of_lt (ltF h.c0))
  have HH := Lib.hid h
  have hb1 : Below w.heap.size w (w.drew.alloc (.cells #[.int .i64 x.d, .int .i64 x.no, .int .i64 x.tag] 31)) := onF (Below.drew (Below.refl _ _)) (newF _ _)
  have c0b := keepF (newF w (.cells #[.int .i64 x.d, .int .i64 x.no, .int .i64 x.tag] 31)) c0
  clear h
  have hta := fun w' => ta_item (.agg #[.int .i64 x.d, .int .i64 x.no, .int .i64 x.tag]) w'
  go_enter Try.func93, Try.ntmps93
  go_region_law
    ((refine step_append_x (W := w.drew) (E := itL) (k := 3) itL_len (by decide) itL_one Try.underlying47 infoIt rfl (by decide) (by rfl) _ _ (by rfl) base lv l (by rfl) HH.out.drew.hl x rfl _ rfl (by rfl) (by omega) hbw ?_
      intro g2 cap2 w5 hown1 hgrow hat
      have HP := Lib.hid (HH.out.pushed hb1 hgrow hown1 hat)
      have c5 := HP.out.2.2.2.1
      have f5 := HP.out.2.2.2.2
      clear hown1 hgrow hat))
  all_goals go_wp2_with fail
  all_goals go_end0
  all_goals exact ⟨rfl, _, HP.out.1, HP.out.2.1, HP.out.2.2.1⟩
theorem itm_mid (m : List It) (x : It) : itm (m ++ [x]) m.length = x := itm_last m x
set_option maxRecDepth 100000 in
set_option maxHeartbeats 2000000 in
theorem qpop_any (w : World) {base q bm : Nat} {lv : Value} {m : List It} {x : It} {D : DataW Unit} (h : QuM w base q bm lv (m ++ [x]) D) : Calls Try.prog 92 #[.pointer (some ⟨q, 0, none⟩)] w fun e w' => e = .returned (.iface 31 (.agg #[.int .i64 x.d, .int .i64 x.no, .int .i64 x.tag])) ∧ ∃ lv', QuM w' base q bm lv' m D ∧ Off (FpQ q bm lv) w w' ∧ (∀ k, FpQ q bm lv' k → FpQ q bm lv k) := by
  have c0 := h.c0
  have f0 := h.f0
  obtain ⟨g, cap, rfl, hc1, hc2, hgq, hgm, _, hc⟩ := h.at (by simp)
  obtain ⟨x0, x1, x2⟩ := hc m.length (by simp)
  rw [itm_mid] at x0 x1 x2
  have hl : (m ++ [x]).length = m.length + 1 := by simp
  rw [hl] at c0
  have p0 : (0 : Int) ≤ (m.length : Int) := by omega
  have p1 : (m.length : Int) < ((m.length + 1 : Nat) : Int) := by omega
  have p2 : IntKind.i64.wrap (((m.length + 1 : Nat) : Int) - 1) = (m.length : Int) := by rw [show ((m.length + 1 : Nat) : Int) - 1 = (m.length : Int) by omega]; exact IntWalk.i64_in _ ⟨by omega, by omega⟩
  have p3 : (m.length : Int) ≤ (cap : Int) := by rw [hl] at hc1; omega
  have hpop : OwnX itL 3 31 w base (.slice (some ⟨g, 0, none⟩) m.length cap) m := by
    have h1 := h.hl
    unfold OwnX at h1 ⊢
    rw [List.flatMap_append, hl] at h1
    exact ownsRow_pop (flx_len itL_len m) h1
  have hb1 := newF w (.cells #[.int .i64 x.d, .int .i64 x.no, .int .i64 x.tag] 31)
  have HP := Lib.hid (h.sliced hb1 (hpop.grown hb1) rfl)
  have c0b := keepF hb1 c0
  have f0b : (w.alloc (.cells #[.int .i64 x.d, .int .i64 x.no, .int .i64 x.tag] 31)).frozen? ⟨q, 0, none⟩ = false := (hb1.frozen (p := ⟨q, 0, none⟩) (ltF c0)).trans f0
  have hrd : ∀ k v, (#[.int .i64 x.d, .int .i64 x.no, .int .i64 x.tag] : Array Value)[k]? = some v → ((w.alloc (.cells #[.int .i64 x.d, .int .i64 x.no, .int .i64 x.tag] 31)).setCell ⟨q, 0, none⟩ (.slice (some ⟨g, 0, none⟩) m.length cap)).cell? ⟨w.heap.size, k, none⟩ = some v := fun k v hv => (cell_other (fun e => by have := congrArg Addr.block e; have := ltF c0; dsimp only at *; omega)).trans (by rw [World.cell?_alloc_at _ _ _ _ rfl]; exact hv)
  have r0 := hrd 0 _ rfl
  have r1 := hrd 1 _ rfl
  have r2 := hrd 2 _ rfl
  clear hc h hpop hb1 hrd hl
  go_enter Try.func92, Try.ntmps92
  go_wp2_with fail
  go_ret
  exact ⟨rfl, _, HP.out⟩

end Go.Proofs.Ytkfcaafjnolhgaa

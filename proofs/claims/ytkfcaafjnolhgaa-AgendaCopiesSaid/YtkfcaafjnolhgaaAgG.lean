/-
  The queue's add, remove, move, has, first, newQueue, copy: what they leave.
-/
import Derived.Test.YtkfcaafjnolhgaaAgF
namespace Go.Proofs.Ytkfcaafjnolhgaa
open Go.RowKit Go.Lib Go.Maps Go.Sort
set_option linter.unusedVariables false
set_option linter.unusedSimpArgs false

/-- The same, with what stands where anew. -/
theorem PlD.perm_no {D : DataW Unit} {l : List It} (h : PlD D l) (n : Int) : Maps.has D (kI n) = true ↔ ∃ x ∈ l, x.no = n := by
  constructor
  · intro hn
    obtain ⟨i, hi, e⟩ := h.of n hn
    exact ⟨itm l i, by rw [itm_get hi]; exact List.getElem_mem hi, e⟩
  · rintro ⟨x, hx, rfl⟩
    obtain ⟨i, hi, rfl⟩ := List.getElem_of_mem hx
    have := (h.on i hi).1
    rw [itm_get hi] at this
    exact this
set_option maxRecDepth 100000 in
theorem qhas_any (w : World) {base q bm : Nat} {lv : Value} {l : List It} {D : DataW Unit} (h : QuM w base q bm lv l D) (no : Int) (hn : I64 no) : Calls Try.prog 37 #[.pointer (some ⟨q, 0, none⟩), .int .i64 no] w fun e w' => e = .returned (.bool (Maps.has D (kI no))) ∧ w' = w := by
  have c1 := h.c1
  obtain ⟨v, ps, hr, hv⟩ := h.hm.look_ok int_law mt_law (int_zero w) (intElem_mk (n := 0) ⟨by decide, by decide⟩) (kI_key hn)
  clear h
  go_enter Try.func37, Try.ntmps37
  go_wp2_with fail
  go_ret
  exact ⟨rfl, rfl⟩
set_option maxRecDepth 100000 in
theorem qfirst_any (w : World) {base q bm : Nat} {lv : Value} {l : List It} {D : DataW Unit} (h : QuM w base q bm lv l D) (h0 : 0 < l.length) : Calls Try.prog 29 #[.pointer (some ⟨q, 0, none⟩)] w fun e w' => e = .returned (.agg #[.int .i64 (itm l 0).d, .int .i64 (itm l 0).no, .int .i64 (itm l 0).tag]) ∧ Below w.heap.size w w' := by
  obtain ⟨g, cap, rfl, hc1, hc2, hgq, hgm, _, hc⟩ := h.at h0
  obtain ⟨x0, x1, x2⟩ := hc 0 h0
  rw [Nat.zero_mul] at x0 x1 x2
  rw [Nat.zero_add] at x1 x2
  have c0 := h.c0
  have p1 : (0 : Int) < (l.length : Int) := by omega
  have hb := newF w (.cells #[.int .i64 0, .int .i64 0, .int .i64 0] 31)
  have c0 := keepF hb c0
  have x0 := keepF hb x0
  have x1 := keepF hb x1
  have x2 := keepF hb x2
  have HB := Lib.hid hb
  have l0 := ltF h.c0
  clear hc h hb
  generalize itm l 0 = x at *
  go_enter Try.func29, Try.ntmps29
  go_wp2_with fail
  exact bodyPost_ret (v := .agg #[.int .i64 x.d, .int .i64 x.no, .int .i64 x.tag]) (by simp [results, Try.results29, go_sem]) rfl ⟨rfl, newF _ _⟩
set_option maxRecDepth 100000 in
set_option maxHeartbeats 2000000 in
theorem newq_any (w : World) : Calls Try.prog 24 #[] w fun e w' => ∃ q bm, e = .returned (.pointer (some ⟨q, 0, none⟩)) ∧ QuV w' w.heap.size q bm (.slice none 0 0) [] (.map []) ∧ Below w.heap.size w w' := by
  have hmm := @run_makeMap Try.prog
  go_enter Try.func24, Try.ntmps24
  go_wp2_with fail
  go_ret
  refine ⟨w.heap.size + 1, w.heap.size, rfl, ⟨⟨?_, ?_, ?_, OwnX.nil _ _ _ _ _, ?_, by simp [Value.ownBlock], by simp [Value.ownBlock], by omega, ⟨by omega, by omega⟩⟩, ⟨?_, rfl, fun i hi => absurd hi (Nat.not_lt_zero _), fun n hn => by cases hn⟩, fun j j0 jn => absurd jn (Nat.not_lt_zero _), fun x hx => by cases hx⟩, ?_⟩
  · rw [World.cell?_alloc_at _ _ _ _ (by simp)]; rfl
  · rw [World.cell?_alloc_at _ _ _ _ (by simp)]; rfl
  · exact World.frozen?_alloc_at _ _ _ _ (by simp)
  · exact (World.ownsMap_made w _ _ _).alloc _
  · exact ⟨[], rfl, List.Pairwise.nil⟩
  · exact onF (newF _ _) (newF _ _)

set_option maxRecDepth 100000 in
theorem QuM.look {w : World} {base q bm : Nat} {lv : Value} {l : List It} {D : DataW Unit} (h : QuM w base q bm lv l D) (hp : PlD D l) {i : Nat} (hi : i < l.length) (hk : I64 (itm l i).no) : (Instr.lookup 76 (.map (some bm)) (.int .i64 (itm l i).no) false).run Try.prog w = .ok (.int .i64 (i : Nat)) w := by
  obtain ⟨c, hr, hat, _⟩ := h.hm.lookup_int int_law mt_law Try.underlying3 (int_zero w) (kI_key hk)
  rw [(hp.on i hi).2] at hat
  unfold intD at hat
  injection hat with hat
  injection hat with _ hat
  rw [← hat] at hr
  exact hr
theorem QuM.delete {w : World} {base q bm : Nat} {lv : Value} {l : List It} {D : DataW Unit} (h : QuM w base q bm lv l D) {n : Int} (hn : I64 n) (ty : TypeId) : ∃ w', (Builtin.delete_ #[76, 3] ty #[.map (some bm), .int .i64 n]).run Try.prog w = .ok (.tuple #[]) w' ∧ QuM w' base q bm lv l (D.del (kI n)) ∧ Off (FpQ q bm lv) w w' := by
  obtain ⟨w', hr, hm, ht⟩ := h.hm.drop int_law mt_law (kI_key hn) ty
  exact ⟨w', hr, h.mapped hm ht.grown⟩
set_option maxRecDepth 100000 in
set_option maxHeartbeats 2000000 in
theorem qadd_any (w : World) {base q bm : Nat} {lv : Value} {l : List It} {D : DataW Unit} (h : QuV w base q bm lv l D) (x : It) (hx : Maps.has D (kI x.no) = false) (hxk : I64 x.no) (hlen : l.length < 1000) :
    Calls Try.prog 40 #[.pointer (some ⟨q, 0, none⟩), .agg #[.int .i64 x.d, .int .i64 x.no, .int .i64 x.tag]] w fun e w' => e = .returned (.tuple #[]) ∧ ∃ lv' l' D', QuV w' base q bm lv' l' D' ∧ l'.Perm (l ++ [x]) ∧ Off (FpQ q bm lv) w w' ∧ (∀ k, FpQ q bm lv' k → FpQ q bm lv k ∨ w.heap.size ≤ k) := by
  have hb := newF w (.cells #[.int .i64 x.d, .int .i64 x.no, .int .i64 x.tag] 31)
  have hm1 := (h.m.keep hb).drew
  have c0 := hm1.c0
  have c1 := hm1.c1
  have hli : I64 (l.length : Nat) := ⟨by omega, by omega⟩
  obtain ⟨w2, hr, hm2, ho2⟩ := hm1.store (by rw [h.p.sz]; omega) hxk hli
  have hp2 := h.p.push hx
  have ho := (Off.of (F := FpQ q bm lv) hb).both ho2.undrew
  have hd : ∀ k v, (#[.int .i64 x.d, .int .i64 x.no, .int .i64 x.tag] : Array Value)[k]? = some v → w2.cell? ⟨w.heap.size, k, none⟩ = some v := fun k v hv => ho2.undrew.cell (by rw [World.cell?_alloc_at _ _ _ _ rfl]; exact hv) (fun c => by have := h.m.hi _ c; omega)
  have d0 := hd 0 _ rfl
  have d1 := hd 1 _ rfl
  have d2 := hd 2 _ rfl
  have HPu := Lib.hid (hpush_any w2 hm2 x hp2 h.h (fun y hy => by
    rcases List.mem_append.1 hy with hy | hy
    · exact h.k y hy
    · rw [List.mem_singleton.1 hy]; exact hxk) hlen)
  have HO := Lib.hid (show Off (FpQ q bm lv) w w2 ∧ w.heap.size ≤ w2.heap.size from ⟨ho, ho.size⟩)
  obtain ⟨a, cap, rfl⟩ := h.m.hl.slice
  clear hm1 hm2 ho2 hp2 ho hd hli h hx hxk hlen hb
  go_enter Try.func40, Try.ntmps40
  go_wp2_with fail
  go_region
  all_goals go_wp2_with fail
  all_goals refine HPu.out.mono ?_
  all_goals rintro e w3 ⟨rfl, lv', l', D', h1, h2, h3, h4⟩
  all_goals have HE := Lib.hid (show QuV w3 base q bm lv' l' D' ∧ l'.Perm (l ++ [x]) ∧ Off (FpQ q bm (.slice a l.length cap)) w w3 ∧ (∀ k, FpQ q bm lv' k → FpQ q bm (.slice a l.length cap) k ∨ w.heap.size ≤ k) from ⟨h1, h2, HO.out.1.both h3, fun k c => (h4 k c).imp id (fun e => Nat.le_trans HO.out.2 e)⟩)
  all_goals clear h1 h2 h3 h4
  all_goals go_wp2_with fail
  all_goals go_end0
  all_goals exact ⟨rfl, _, _, _, HE.out⟩
theorem Off.set3 {F : Nat → Prop} {w w1 : World} (h : Off F w w1) {R : Nat} (hR : w.heap.size ≤ R) (a b c : Value) : Off F w (((w1.setCell ⟨R, 0, none⟩ a).setCell ⟨R, 1, none⟩ b).setCell ⟨R, 2, none⟩ c) :=
  h.trans ((Off.set w1 R 0 a).both ((Off.set _ R 1 b).both (Off.set _ R 2 c))) (fun k e => .inr (by omega))
theorem QuV.set3 {w1 : World} {base q bm : Nat} {lv : Value} {l : List It} {D : DataW Unit} (h : QuV w1 base q bm lv l D) {R : Nat} (hR : ¬ FpQ q bm lv R) (a b c : Value) : QuV (((w1.setCell ⟨R, 0, none⟩ a).setCell ⟨R, 1, none⟩ b).setCell ⟨R, 2, none⟩ c) base q bm lv l D :=
  h.off ((Off.set w1 R 0 a).both ((Off.set _ R 1 b).both (Off.set _ R 2 c))) (fun k hk e => hR (e ▸ hk))
set_option maxRecDepth 100000 in
set_option maxHeartbeats 2000000 in
theorem qremove_any (w : World) {base q bm : Nat} {lv : Value} {l : List It} {D : DataW Unit} (h : QuV w base q bm lv l D) {i : Nat} (hi : i < l.length) (hlen : l.length ≤ 1000) :
    Calls Try.prog 30 #[.pointer (some ⟨q, 0, none⟩), .int .i64 (itm l i).no] w fun e w' => e = .returned (.agg #[.int .i64 (itm l i).d, .int .i64 (itm l i).no, .int .i64 (itm l i).tag]) ∧ ∃ lv' m D', QuV w' base q bm lv' m D' ∧ (m ++ [itm l i]).Perm l ∧ Off (FpQ q bm lv) w w' ∧ (∀ k, FpQ q bm lv' k → FpQ q bm lv k) := by
  have hb := newF w (.cells #[.int .i64 0, .int .i64 0, .int .i64 0] 31)
  have hv1 := h.keep hb
  have hik : I64 (itm l i).no := h.k _ (by rw [itm_get hi]; exact List.getElem_mem hi)
  have hlk := hv1.m.look h.p hi hik
  have c1 := hv1.m.c1
  have hr0 : ∀ k, k < 3 → (w.alloc (.cells #[.int .i64 0, .int .i64 0, .int .i64 0] 31)).cell? ⟨w.heap.size, k, none⟩ = some (.int .i64 0) := fun k hk => by
    rw [World.cell?_alloc_at _ _ _ _ rfl]
    rcases (show k = 0 ∨ k = 1 ∨ k = 2 by omega) with rfl | rfl | rfl <;> rfl
  have hf0 : ∀ k, (w.alloc (.cells #[.int .i64 0, .int .i64 0, .int .i64 0] 31)).frozen? ⟨w.heap.size, k, none⟩ = false := fun k => World.frozen?_alloc_at _ _ _ _ rfl
  have hz : ¬ FpQ q bm lv w.heap.size := fun c => by have := h.m.hi _ c; omega
  have HRe := Lib.hid (hremove_any _ hv1 hi hlen)
  have HB := Lib.hid hb
  have HZ := Lib.hid (And.intro hz (And.intro hr0 hf0))
  have HIk := Lib.hid hik
  have HKk := Lib.hid h.k
  clear h hv1 hb hik hz hr0 hf0
  generalize itm l i = x at *
  go_enter Try.func30, Try.ntmps30
  go_wp2_with fail
  refine HRe.out.mono ?_
  rintro e w2 ⟨rfl, lv', m, D', hm, hp, hh, hpe, ho, hfp⟩
  have hta := fun w' => ta_item (.agg #[.int .i64 x.d, .int .i64 x.no, .int .i64 x.tag]) w'
  have hb3 := newF w2 (.cells #[.int .i64 x.d, .int .i64 x.no, .int .i64 x.tag] 31)
  have hm3 := hm.keep hb3
  have c1 := hm3.c1
  obtain ⟨w4, hr4, hm4, ho4⟩ := hm3.delete HIk.out 0
  have hsz : w.heap.size + 1 ≤ w2.heap.size := by have := ho.size; rw [World.size_alloc] at this; exact this
  have ho14 : Off (FpQ q bm lv) (w.alloc (.cells #[.int .i64 0, .int .i64 0, .int .i64 0] 31)) w4 := (ho.both (Off.of hb3)).trans ho4 (fun k c => .inl (hfp k c))
  have o4 := (Off.of (F := FpQ q bm lv) HB.out).both ho14
  have z0 := ho14.cell (HZ.out.2.1 0 (by decide)) HZ.out.1
  have z1 := ho14.cell (HZ.out.2.1 1 (by decide)) HZ.out.1
  have z2 := ho14.cell (HZ.out.2.1 2 (by decide)) HZ.out.1
  have y : ∀ k, w4.frozen? ⟨w.heap.size, k, none⟩ = false := fun k => (ho14.frozen (by simp) HZ.out.1).trans (HZ.out.2.2 k)
  have y0 := y 0
  have y1 := y 1
  have y2 := y 2
  have hq4 : ∀ k v, (#[.int .i64 x.d, .int .i64 x.no, .int .i64 x.tag] : Array Value)[k]? = some v → w4.cell? ⟨w2.heap.size, k, none⟩ = some v := fun k v hv => ho4.cell (by rw [World.cell?_alloc_at _ _ _ _ rfl]; exact hv) (fun c => by have := hm.hi _ c; omega)
  have x0 := hq4 0 _ rfl
  have x1 := hq4 1 _ rfl
  have x2 := hq4 2 _ rfl
  have hkm : ∀ y ∈ m, I64 y.no := fun y hy => HKk.out y (hpe.mem_iff.1 (by simp [hy]))
  have HV4 := Lib.hid (show QuV w4 base q bm lv' m (D'.del (kI x.no)) from ⟨hm4, hp.pop, hh, hkm⟩)
  have HO4 := Lib.hid o4
  have HFp := Lib.hid (And.intro hfp hpe)
  clear hm hp hh hpe ho hfp hb3 hm3 hm4 ho4 hsz ho14 o4 y hq4 hkm HRe
  go_wp2_with fail
  refine bodyPost_ret (v := .agg #[.int .i64 x.d, .int .i64 x.no, .int .i64 x.tag]) (by simp [results, Try.results30, go_sem, z0, z1, z2]) rfl ⟨rfl, lv', m, _, HV4.out.set3 (fun c => HZ.out.1 (HFp.out.1 _ c)) _ _ _, HFp.out.2, HO4.out.set3 (Nat.le_refl _) _ _ _, HFp.out.1⟩

end Go.Proofs.Ytkfcaafjnolhgaa

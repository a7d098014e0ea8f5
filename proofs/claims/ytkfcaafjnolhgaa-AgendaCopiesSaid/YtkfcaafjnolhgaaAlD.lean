/-
  Three agendas that go on, and what else there was when they were made: no program.
-/
import Derived.Test.YtkfcaafjnolhgaaAlC
namespace Go.Proofs.Ytkfcaafjnolhgaa
open Go.RowKit Go.Lib Go.Maps Go.Sort Go.Shelf
set_option linter.unusedVariables false
set_option linter.unusedSimpArgs false
attribute [local go_sem] Oper.semAt_some

/-- Three agendas that go on from a world, within blocks of their own or later ones. -/
structure CpS (w wX wr : World) (G : Nat → Prop) (a q bm : Nat) (lv : Value) (L : List It) (n : Nat) (B c qc bc : Nat) (lc : Value) (M : List It) (m : Nat) (D d qd bd : Nat) (ld : Value) (K : List It) (k : Nat) : Prop where
  tri : Tri w wr a q bm lv L n B c qc bc lc M m D d qd bd ld K k
  off : Off G wX wr
  ga : ∀ j, FpA a q bm lv j → G j ∨ wX.heap.size ≤ j
  gc : ∀ j, FpA c qc bc lc j → G j ∨ wX.heap.size ≤ j
  gd : ∀ j, FpA d qd bd ld j → G j ∨ wX.heap.size ≤ j
theorem CpS.keep {w wX wr wy : World} {G : Nat → Prop} {a q bm n B c qc bc m D d qd bd k : Nat} {lv lc ld : Value} {L M K : List It} (h : CpS w wX wr G a q bm lv L n B c qc bc lc M m D d qd bd ld K k) (hb : Below wr.heap.size wr wy) : CpS w wX wy G a q bm lv L n B c qc bc lc M m D d qd bd ld K k :=
  ⟨h.tri.keep hb, h.off.both (Off.of hb), h.ga, h.gc, h.gd⟩
theorem CpS.doA {w wX wr w2 : World} {G : Nat → Prop} {a q bm n n' B c qc bc m D d qd bd k : Nat} {lv lc ld : Value} {L L' M K : List It} (h : CpS w wX wr G a q bm lv L n B c qc bc lc M m D d qd bd ld K k) (ha : Aft wr w.heap.size a q bm lv L' n' w2) : ∃ lv2, CpS w wX w2 G a q bm lv2 L' n' B c qc bc lc M m D d qd bd ld K k ∧ Off (FpA a q bm lv) wr w2 ∧ (∀ j, FpA a q bm lv2 j → FpA a q bm lv j ∨ wr.heap.size ≤ j) := by
  obtain ⟨lv2, t, o, f⟩ := h.tri.doA ha
  exact ⟨lv2, ⟨t, h.off.trans o h.ga, fun j hj => (f j hj).elim (h.ga j) (fun e => .inr (Nat.le_trans h.off.size e)), h.gc, h.gd⟩, o, f⟩
theorem CpS.doC {w wX wr w2 : World} {G : Nat → Prop} {a q bm n B c qc bc m m' D d qd bd k : Nat} {lv lc ld : Value} {L M M' K : List It} (h : CpS w wX wr G a q bm lv L n B c qc bc lc M m D d qd bd ld K k) (ha : Aft wr B c qc bc lc M' m' w2) : ∃ lc2, CpS w wX w2 G a q bm lv L n B c qc bc lc2 M' m' D d qd bd ld K k := by
  obtain ⟨lc2, t, o, f⟩ := h.tri.doC ha
  exact ⟨lc2, t, h.off.trans o h.gc, h.ga, fun j hj => (f j hj).elim (h.gc j) (fun e => .inr (Nat.le_trans h.off.size e)), h.gd⟩
theorem CpS.doD {w wX wr w2 : World} {G : Nat → Prop} {a q bm n B c qc bc m D d qd bd k k' : Nat} {lv lc ld : Value} {L M K K' : List It} (h : CpS w wX wr G a q bm lv L n B c qc bc lc M m D d qd bd ld K k) (ha : Aft wr D d qd bd ld K' k' w2) : ∃ ld2, CpS w wX w2 G a q bm lv L n B c qc bc lc M m D d qd bd ld2 K' k' := by
  obtain ⟨ld2, t, o, f⟩ := h.tri.doD ha
  exact ⟨ld2, t, h.off.trans o h.gd, h.ga, h.gc, fun j hj => (f j hj).elim (h.gd j) (fun e => .inr (Nat.le_trans h.off.size e))⟩
/-- All that stood in memory beside the three agendas when they were made. -/
def ofG (a q bm : Nat) (lv : Value) (c qc bc : Nat) (lc : Value) (d qd bd : Nat) (ld : Value) (j : Nat) : Prop := FpA a q bm lv j ∨ FpA c qc bc lc j ∨ FpA d qd bd ld j
theorem CpS.new {w wr : World} {a q bm n B c qc bc m D d qd bd k : Nat} {lv lc ld : Value} {L M K : List It} (h : Tri w wr a q bm lv L n B c qc bc lc M m D d qd bd ld K k) : CpS w wr wr (ofG a q bm lv c qc bc lc d qd bd ld) a q bm lv L n B c qc bc lc M m D d qd bd ld K k :=
  ⟨h, Off.refl _ _, fun j e => .inl (.inl e), fun j e => .inl (.inr (.inl e)), fun j e => .inl (.inr (.inr e))⟩
-- All, and that what it goes through is new.
set_option maxRecDepth 100000 in
set_option maxHeartbeats 2000000 in
theorem aall_new (w : World) {base a q bm n : Nat} {lv : Value} {L : List It} (h : AgV w base a q bm lv L n) (hl : L.length ≤ 1000) : Calls Try.prog 21 #[.pointer (some ⟨a, 0, none⟩)] w fun e w' => ∃ Bs v, e = .returned (.func (.func 42) #[] #[.pointer (some ⟨Bs, 0, none⟩)]) ∧ w.heap.size ≤ Bs ∧ w'.cell? ⟨Bs, 0, none⟩ = some v ∧ OwnX itL 3 31 w' w.heap.size v L ∧ Below w.heap.size w w' := by
  obtain ⟨l, D, hq, hp⟩ := h.qv
  have c0 := h.c0
  have HQ := Lib.hid (qall_any w hq.m)
  have hb := newF w (.cells #[lv] 47)
  have hcell : (w.alloc (.cells #[lv] 47)).cell? ⟨w.heap.size, 0, none⟩ = some lv := by rw [World.cell?_alloc_at _ _ _ _ rfl]; rfl
  have hrow := (hq.m.hl.row (E := itL) (k := 3) itL_len).keep hb
  have HS := Lib.hid (sortedf_it w.heap.size lv l (by rw [hp.length_eq]; exact hl) _ hcell hrow)
  have HK := Lib.hid (fun m h1 h2 => h.sorted (m := m) hp h1 h2)
  have HB := Lib.hid hb
  clear h hq hp hl hb hcell hrow
  go_enter Try.func21, Try.ntmps21
  go_wp2_with fail
  refine HQ.out.mono ?_
  rintro e w1 ⟨rfl, rfl⟩
  clear HQ
  go_wp2_with fail
  refine HS.out.mono ?_
  rintro e w2 ⟨v, m', rfl, h1, h2, ho, hb2⟩
  have he := HK.out m' h1 h2
  subst he
  have HO := Lib.hid (ho.base (a := w.heap.size) (by simp))
  have HB2 := Lib.hid (onF HB.out hb2)
  obtain ⟨sa, sc, rfl⟩ := ho.slice
  have HV := Lib.hid (vals_make (.slice sa m'.length sc) ⟨_, _, _, rfl⟩ w2)
  clear h1 h2 ho hb2 HS HK HB
  go_wp2_with fail
  refine HV.out.mono ?_
  rintro e w3 ⟨rfl, rfl⟩
  clear HV
  go_wp2_with fail
  go_ret
  exact ⟨w2.heap.size, _, rfl, HB2.out.size, by rw [World.cell?_alloc_at _ _ _ _ rfl]; rfl, HO.out.grown (newF _ _), onF HB2.out (newF _ _)⟩
attribute [local go_sem] eq_it
theorem ne_it (a b c a' b' c' : Int) (w : World) : (binOp BinOp.neq 31 (.agg #[.int .i64 a, .int .i64 b, .int .i64 c]) (.agg #[.int .i64 a', .int .i64 b', .int .i64 c'])).run Try.prog w = .ok (.bool (!(a == a' && (b == b' && c == c')))) w := by
  go_simp
  by_cases h1 : a = a' <;> by_cases h2 : b = b' <;> by_cases h3 : c = c' <;> simp [h1, h2, h3]
/-- What the loop over all items leaves behind an item. -/
theorem it_eq {x y : It} (h : (y.d == x.d && (y.no == x.no && y.tag == x.tag)) = true) : x = y := by
  simp only [Bool.and_eq_true, beq_iff_eq] at h
  cases x; cases y
  simp_all

/-- A round of the loop over all items: the count goes on by one. -/
theorem loop_step {wr W W' : World} {B n : Nat} {L pre : List It} {x : It} (q1 : Below wr.heap.size wr W) (hp : pre = L.take pre.length) (hn : n = pre.length) (q2 : W.cell? ⟨wr.heap.size, 0, none⟩ = some (.int .i64 (n : Nat))) (q3 : W.frozen? ⟨wr.heap.size, 0, none⟩ = false) (hx : L.getD n default = x) (hnl : n < L.length) (hl : L.length ≤ 40) (ho : W'.os = W.os) (ht : W'.tape = W.tape) (hu : W'.output = W.output) (hh : W'.heap = (W.setCell ⟨wr.heap.size, 0, none⟩ (.int .i64 (wrap64 ((n : Int) + 1)))).heap) :
    KeepsFrom B W W' ∧ Below wr.heap.size W W' ∧ pre ++ [x] = L.take (pre ++ [x]).length ∧ Below wr.heap.size wr W' ∧ W'.cell? ⟨wr.heap.size, 0, none⟩ = some (.int .i64 ((pre ++ [x]).length : Nat)) ∧ W'.frozen? ⟨wr.heap.size, 0, none⟩ = false := by
  have hb : Below wr.heap.size W (W.setCell ⟨wr.heap.size, 0, none⟩ (.int .i64 (wrap64 ((n : Int) + 1)))) := by
    refine RowKit.Below.setCell ((RowKit.Below.refl _ _)) ?_ _
    exact Nat.le_refl _
  have hb' : Below wr.heap.size W W' := ⟨ho, ht, hu, by rw [hh]; exact hb.size, fun k hk => by rw [hh]; exact hb.block k hk⟩
  have hk := (KeepsOthers.setCell W ⟨wr.heap.size, 0, none⟩ (.int .i64 (wrap64 ((n : Int) + 1)))).from B
  refine ⟨⟨by rw [hh]; exact hk.size, fun k o hB h1 h2 => by rw [hh]; exact hk.same k o hB h1 h2⟩, hb', ?_, q1.trans hb', ?_, ?_⟩
  · rw [List.length_append, List.length_singleton, take_itm (by omega), ← hp, ← hn, hx]
  · have e : wrap64 ((n : Int) + 1) = (n : Int) + 1 := by unfold wrap64; omega
    rw [World.cell?_of_block (w := W.setCell ⟨wr.heap.size, 0, none⟩ (.int .i64 (wrap64 ((n : Int) + 1)))) (by rw [hh]), cell_same q2, e, List.length_append, List.length_singleton, ← hn]
    rfl
  · rw [World.frozen?_of_block (w := W.setCell ⟨wr.heap.size, 0, none⟩ (.int .i64 (wrap64 ((n : Int) + 1)))) (by rw [hh]), World.frozen?_setCell]
    exact q3
theorem loop_stop {W W' : World} {B b : Nat} {v : Value} (hh : W'.heap = (W.setCell ⟨b, 0, none⟩ v).heap) : KeepsFrom B W W' := by
  have hk := (KeepsOthers.setCell W ⟨b, 0, none⟩ v).from B
  exact ⟨by rw [hh]; exact hk.size, fun k o hB h1 h2 => by rw [hh]; exact hk.same k o hB h1 h2⟩

end Go.Proofs.Ytkfcaafjnolhgaa

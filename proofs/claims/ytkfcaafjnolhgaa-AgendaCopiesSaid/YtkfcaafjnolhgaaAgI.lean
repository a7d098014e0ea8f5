/-
  Package agenda: Take, Drop; heap's Fix, the queue's move, Move: what they answer.
-/
import Derived.Test.YtkfcaafjnolhgaaAgH
import Derived.Deep.RegionHeld3
namespace Go.Proofs.Ytkfcaafjnolhgaa
open Go.RowKit Go.Lib Go.Maps Go.Sort
set_option linter.unusedVariables false
set_option linter.unusedSimpArgs false

theorem AgV.noeq {w : World} {base a q bm n : Nat} {lv : Value} {L : List It} (h : AgV w base a q bm lv L n) : ∀ y ∈ L, ∀ z ∈ L, y.no = z.no → y = z := by
  obtain ⟨l, D, hq, hp⟩ := h.qv
  intro y hy z hz e
  obtain ⟨i, hi, rfl⟩ := List.getElem_of_mem (hp.mem_iff.2 hy)
  obtain ⟨j, hj, rfl⟩ := List.getElem_of_mem (hp.mem_iff.2 hz)
  have := hq.p.inj hi hj (by rw [itm_get hi, itm_get hj]; exact e)
  subst this; rfl
theorem noI_head {x : It} {M : List It} (hd : ∀ y ∈ x :: M, ∀ z ∈ x :: M, y.no = z.no → y = z) (hs : SrI (x :: M)) : noI x.no (x :: M) = M := by
  unfold noI
  rw [List.filter_cons_of_neg (by simp)]
  refine List.filter_eq_self.2 (fun y hy => ?_)
  rw [decide_eq_true_iff]
  intro c
  have := hd y (by simp [hy]) x (by simp) c
  subst this
  exact bfI_irr _ ((List.pairwise_cons.1 hs).1 y hy)
set_option maxRecDepth 100000 in
set_option maxHeartbeats 4000000 in
/-- The item of a number is taken away. -/
theorem aremove_any (w : World) {base a q bm n : Nat} {lv : Value} {L : List It} (h : AgV w base a q bm lv L n) (hl : L.length ≤ 1000) {x : It} (hx : x ∈ L) :
    Calls Try.prog 30 #[.pointer (some ⟨q, 0, none⟩), .int .i64 x.no] w fun e w' => e = .returned (.agg #[.int .i64 x.d, .int .i64 x.no, .int .i64 x.tag]) ∧ ∃ lv', AgV w' base a q bm lv' (noI x.no L) n ∧ Off (FpA a q bm lv) w w' ∧ (∀ k, FpA a q bm lv' k → FpA a q bm lv k ∨ w.heap.size ≤ k) := by
  obtain ⟨l, D, hq, hp⟩ := h.qv
  obtain ⟨i, hi, hix⟩ := List.getElem_of_mem (hp.mem_iff.2 hx)
  have e : itm l i = x := by rw [itm_get hi, hix]
  have := qremove_any w hq hi (by rw [hp.length_eq]; exact hl)
  rw [e] at this
  refine this.mono ?_
  rintro e w' ⟨rfl, lv', m, D', h1, h2, h3, h4⟩
  exact ⟨rfl, lv', h.queue h1 h3 (fun k c => .inl (h4 k c)) (perm_no h2 hp h.sr h.noeq) (noI_srt h.sr) (fun y hy => h.nb y ((noI_mem _ _ _).1 hy).1)⟩
theorem FpA.out {w : World} {base a q bm n : Nat} {lv : Value} {L : List It} (h : AgV w base a q bm lv L n) : ¬ FpA a q bm lv w.heap.size := fun c => by have := h.hi _ c; omega
set_option maxRecDepth 100000 in
set_option maxHeartbeats 4000000 in
theorem atake_no (w : World) {base a q bm n : Nat} {lv : Value} {L : List It} (h : AgV w base a q bm lv L n) (by' : Int) (hno : ∀ x M, L = x :: M → by' < x.d) :
    Calls Try.prog 20 #[.pointer (some ⟨a, 0, none⟩), .int .i64 by'] w fun e w' => e = .returned (.tuple #[zIt, .bool false]) ∧ Below w.heap.size w w' := by
  unfold zIt
  have hb := newF w (.cells #[.int .i64 0, .int .i64 0, .int .i64 0] 31)
  have hr0 : ∀ k, k < 3 → (w.alloc (.cells #[.int .i64 0, .int .i64 0, .int .i64 0] 31)).cell? ⟨w.heap.size, k, none⟩ = some (.int .i64 0) := fun k hk => by
    rw [World.cell?_alloc_at _ _ _ _ rfl]
    rcases (show k = 0 ∨ k = 1 ∨ k = 2 by omega) with rfl | rfl | rfl <;> rfl
  have hf0 : ∀ k, (w.alloc (.cells #[.int .i64 0, .int .i64 0, .int .i64 0] 31)).frozen? ⟨w.heap.size, k, none⟩ = false := fun k => World.frozen?_alloc_at _ _ _ _ rfl
  have HZ := Lib.hid (And.intro hr0 hf0)
  have HB := Lib.hid hb
  cases L with
  | nil =>
    have HN := Lib.hid (anext_no _ (h.keep hb))
    unfold zIt at HN
    clear h hb hr0 hf0 hno
    go_enter Try.func20, Try.ntmps20
    go_wp2_with fail
    refine HN.out.mono ?_
    rintro e w2 ⟨rfl, hb2⟩
    have hb3 := onF hb2 (newF w2 (.cells #[.int .i64 0, .int .i64 0, .int .i64 0] 31))
    have z0 := keepF hb3 (HZ.out.1 0 (by decide))
    have z1 := keepF hb3 (HZ.out.1 1 (by decide))
    have z2 := keepF hb3 (HZ.out.1 2 (by decide))
    have y : ∀ k, (w2.alloc (.cells #[.int .i64 0, .int .i64 0, .int .i64 0] 31)).frozen? ⟨w.heap.size, k, none⟩ = false := fun k => (hb3.frozen (p := ⟨w.heap.size, k, none⟩) (by simp)).trans (HZ.out.2 k)
    have y0 := y 0
    have y1 := y 1
    have y2 := y 2
    have HB2 := Lib.hid (onF HB.out hb3)
    clear hb2 hb3 y HN
    go_wp2_with fail
    exact bodyPost_ret (v := .tuple #[.agg #[.int .i64 0, .int .i64 0, .int .i64 0], .bool false]) (by simp [results, Try.results20, go_sem, z0, z1, z2]) rfl ⟨rfl, Below.setCell (Below.setCell (Below.setCell HB2.out (Nat.le_refl _) _) (Nat.le_refl _) _) (Nat.le_refl _) _⟩
  | cons x M =>
    have HN := Lib.hid (anext_yes _ (h.keep hb))
    have hlt := hno x M rfl
    unfold itV at HN
    clear h hb hr0 hf0 hno
    go_enter Try.func20, Try.ntmps20
    go_wp2_with fail
    refine HN.out.mono ?_
    rintro e w2 ⟨rfl, hb2⟩
    have hb3 := onF hb2 (newF w2 (.cells #[.int .i64 x.d, .int .i64 x.no, .int .i64 x.tag] 31))
    have z0 := keepF hb3 (HZ.out.1 0 (by decide))
    have z1 := keepF hb3 (HZ.out.1 1 (by decide))
    have z2 := keepF hb3 (HZ.out.1 2 (by decide))
    have y : ∀ k, (w2.alloc (.cells #[.int .i64 x.d, .int .i64 x.no, .int .i64 x.tag] 31)).frozen? ⟨w.heap.size, k, none⟩ = false := fun k => (hb3.frozen (p := ⟨w.heap.size, k, none⟩) (by simp)).trans (HZ.out.2 k)
    have y0 := y 0
    have y1 := y 1
    have y2 := y 2
    have HB2 := Lib.hid (onF HB.out hb3)
    clear hb2 hb3 y HN
    go_wp2_with fail
    exact bodyPost_ret (v := .tuple #[.agg #[.int .i64 0, .int .i64 0, .int .i64 0], .bool false]) (by simp [results, Try.results20, go_sem, z0, z1, z2]) rfl ⟨rfl, Below.setCell (Below.setCell (Below.setCell HB2.out (Nat.le_refl _) _) (Nat.le_refl _) _) (Nat.le_refl _) _⟩

theorem set3_other {w : World} {R b i : Nat} {x y z : Value} (h : b ≠ R) : (((w.setCell ⟨R, 0, none⟩ x).setCell ⟨R, 1, none⟩ y).setCell ⟨R, 2, none⟩ z).cell? ⟨b, i, none⟩ = w.cell? ⟨b, i, none⟩ := by
  rw [cell_other (fun e => h (congrArg Addr.block e).symm), cell_other (fun e => h (congrArg Addr.block e).symm), cell_other (fun e => h (congrArg Addr.block e).symm)]
theorem AgV.drew {w : World} {base a q bm n : Nat} {lv : Value} {L : List It} (h : AgV w base a q bm lv L n) : AgV w.drew base a q bm lv L n := h.off (Off.of (F := fun _ => False) (Below.drew (Below.refl _ _))) (fun _ _ c => c)
theorem AgV.set3 {w1 : World} {base a q bm n : Nat} {lv : Value} {L : List It} (h : AgV w1 base a q bm lv L n) {R : Nat} (hR : ¬ FpA a q bm lv R) (x y z : Value) : AgV (((w1.setCell ⟨R, 0, none⟩ x).setCell ⟨R, 1, none⟩ y).setCell ⟨R, 2, none⟩ z) base a q bm lv L n :=
  h.off ((Off.set w1 R 0 x).both ((Off.set _ R 1 y).both (Off.set _ R 2 z))) (fun k hk e => hR (e ▸ hk))
set_option maxRecDepth 100000 in
set_option maxHeartbeats 4000000 in
theorem atake_yes (w : World) {base a q bm n : Nat} {lv : Value} {x : It} {M : List It} (h : AgV w base a q bm lv (x :: M) n) (hl : (x :: M).length ≤ 1000) (by' : Int) (hle : x.d ≤ by') :
    Calls Try.prog 20 #[.pointer (some ⟨a, 0, none⟩), .int .i64 by'] w fun e w' => e = .returned (.tuple #[itV x, .bool true]) ∧ ∃ lv', AgV w' base a q bm lv' M n ∧ Off (FpA a q bm lv) w w' ∧ (∀ k, FpA a q bm lv' k → FpA a q bm lv k ∨ w.heap.size ≤ k) := by
  have hb := newF w (.cells #[.int .i64 0, .int .i64 0, .int .i64 0] 31)
  have hr0 : ∀ k, k < 3 → (w.alloc (.cells #[.int .i64 0, .int .i64 0, .int .i64 0] 31)).cell? ⟨w.heap.size, k, none⟩ = some (.int .i64 0) := fun k hk => by
    rw [World.cell?_alloc_at _ _ _ _ rfl]
    rcases (show k = 0 ∨ k = 1 ∨ k = 2 by omega) with rfl | rfl | rfl <;> rfl
  have hf0 : ∀ k, (w.alloc (.cells #[.int .i64 0, .int .i64 0, .int .i64 0] 31)).frozen? ⟨w.heap.size, k, none⟩ = false := fun k => World.frozen?_alloc_at _ _ _ _ rfl
  have HZ := Lib.hid (And.intro hr0 hf0)
  have HB := Lib.hid hb
  have HN := Lib.hid (anext_yes _ (h.keep hb))
  have HA := Lib.hid h
  have hnm := noI_head h.noeq h.sr
  have HRm := Lib.hid (fun (wx : World) (hx : AgV wx base a q bm lv (x :: M) n) => aremove_any wx hx hl (x := x) (by simp))
  rw [hnm] at HRm
  have hgt : ¬ by' < x.d := by omega
  unfold itV at HN ⊢
  clear h hb hr0 hf0 hnm hle
  go_enter Try.func20, Try.ntmps20
  go_wp2_with fail
  refine HN.out.mono ?_
  rintro e w2 ⟨rfl, hb2⟩
  have hb3 := onF hb2 (newF w2 (.cells #[.int .i64 x.d, .int .i64 x.no, .int .i64 x.tag] 31))
  have hA3 := (HA.out.keep HB.out).keep hb3
  have HA3 := Lib.hid hA3
  have c0 := hA3.c0
  have x0 : (w2.alloc (.cells #[.int .i64 x.d, .int .i64 x.no, .int .i64 x.tag] 31)).cell? ⟨w2.heap.size, 0, none⟩ = some (.int .i64 x.d) := by rw [World.cell?_alloc_at _ _ _ _ rfl]; rfl
  have x1 : (w2.alloc (.cells #[.int .i64 x.d, .int .i64 x.no, .int .i64 x.tag] 31)).cell? ⟨w2.heap.size, 1, none⟩ = some (.int .i64 x.no) := by rw [World.cell?_alloc_at _ _ _ _ rfl]; rfl
  have HB3 := Lib.hid (onF HB.out hb3)
  have HZ3 := Lib.hid (show (∀ k, k < 3 → (w2.alloc (.cells #[.int .i64 x.d, .int .i64 x.no, .int .i64 x.tag] 31)).cell? ⟨w.heap.size, k, none⟩ = some (.int .i64 0)) ∧ (∀ k, (w2.alloc (.cells #[.int .i64 x.d, .int .i64 x.no, .int .i64 x.tag] 31)).frozen? ⟨w.heap.size, k, none⟩ = false) ∧ ¬ FpA a q bm lv w.heap.size ∧ ¬ FpA a q bm lv w2.heap.size ∧ w.heap.size < w2.heap.size from ⟨fun k hk => keepF hb3 (HZ.out.1 k hk), fun k => (hb3.frozen (p := ⟨w.heap.size, k, none⟩) (by simp)).trans (HZ.out.2 k), FpA.out HA.out, fun c => by have := HA.out.hi _ c; have := hb2.size; rw [World.size_alloc] at this; omega, by have := hb2.size; rw [World.size_alloc] at this; omega⟩)
  have HR3 := Lib.hid (HRm.out _ hA3.drew)
  have HNE : Hid (a ≠ w.heap.size ∧ w2.heap.size ≠ w.heap.size) := Lib.hid ⟨fun e => by have := ltF HA.out.c0; omega, by have := HZ3.out.2.2.2.2; omega⟩
  clear hb2 hb3 hA3 HN HRm HZ
  go_wp2_with fail
  generalize hW : w2.alloc (.cells #[.int .i64 x.d, .int .i64 x.no, .int .i64 x.tag] 31) = W at *
  go_region_held3 (fun w' => w'.cell? ⟨a, 0, none⟩ = some (.pointer (some ⟨q, 0, none⟩)) ∧ w'.cell? ⟨w2.heap.size, 1, none⟩ = some (.int .i64 x.no)) (first | (with_reducible exact ⟨c0, x1⟩) | (exact ⟨(set3_other HNE.out.1).trans c0, (set3_other HNE.out.2).trans x1⟩) | go_keep)
    ((go_at_call 30; (with_reducible refine HR3.out.mono ?_); rintro e w' ⟨rfl, lv', hA, ho, hf⟩; have c0 := hA.c0; have x1 := ho.cell (b := w2.heap.size) (i := 1) x1 HZ3.out.2.2.2.1; have z0 := ho.cell (b := w.heap.size) (i := 0) (HZ3.out.1 0 (by decide)) HZ3.out.2.2.1; have z1 := ho.cell (b := w.heap.size) (i := 1) (HZ3.out.1 1 (by decide)) HZ3.out.2.2.1; have z2 := ho.cell (b := w.heap.size) (i := 2) (HZ3.out.1 2 (by decide)) HZ3.out.2.2.1; have y0 := (ho.frozen (b := w.heap.size) (i := 0) (ltF (HZ3.out.1 0 (by decide))) HZ3.out.2.2.1).trans (HZ3.out.2.1 0); have y1 := (ho.frozen (b := w.heap.size) (i := 1) (ltF (HZ3.out.1 0 (by decide))) HZ3.out.2.2.1).trans (HZ3.out.2.1 1); have y2 := (ho.frozen (b := w.heap.size) (i := 2) (ltF (HZ3.out.1 0 (by decide))) HZ3.out.2.2.1).trans (HZ3.out.2.1 2); have HE := Lib.hid (And.intro hA (And.intro ho hf)); clear hA ho hf))
  all_goals go_wp2_with fail
  all_goals exact bodyPost_ret (v := .tuple #[.agg #[.int .i64 x.d, .int .i64 x.no, .int .i64 x.tag], .bool true]) (by simp [results, Try.results20, go_sem, z0, z1, z2]) rfl ⟨rfl, lv', HE.out.1.set3 (fun c => (HE.out.2.2 _ c).elim HZ3.out.2.2.1 (fun e => by have h1 : W.heap.size ≤ w.heap.size := e; have h2 := ltF (HZ3.out.1 0 (by decide)); omega)) _ _ _, ((Off.of HB3.out).both HE.out.2.1.undrew).set3 (Nat.le_refl _) _ _ _, fun k c => (HE.out.2.2 k c).imp id (fun e => Nat.le_trans HB3.out.size e)⟩
set_option maxRecDepth 100000 in
set_option maxHeartbeats 4000000 in
theorem adrop_any (w : World) {base a q bm n : Nat} {lv : Value} {L : List It} (h : AgV w base a q bm lv L n) (hl : L.length ≤ 1000) {x : It} (hx : x ∈ L) (hxk : I64 x.no) :
    Calls Try.prog 26 #[.pointer (some ⟨a, 0, none⟩), .int .i64 x.no] w fun e w' => e = .returned (.tuple #[itV x, .int .i64 0]) ∧ ∃ lv', AgV w' base a q bm lv' (noI x.no L) n ∧ Off (FpA a q bm lv) w w' ∧ (∀ k, FpA a q bm lv' k → FpA a q bm lv k ∨ w.heap.size ≤ k) := by
  have hb := newF w (.cells #[.int .i64 0, .int .i64 0, .int .i64 0] 31)
  have hr0 : ∀ k, k < 3 → (w.alloc (.cells #[.int .i64 0, .int .i64 0, .int .i64 0] 31)).cell? ⟨w.heap.size, k, none⟩ = some (.int .i64 0) := fun k hk => by
    rw [World.cell?_alloc_at _ _ _ _ rfl]
    rcases (show k = 0 ∨ k = 1 ∨ k = 2 by omega) with rfl | rfl | rfl <;> rfl
  have hf0 : ∀ k, (w.alloc (.cells #[.int .i64 0, .int .i64 0, .int .i64 0] 31)).frozen? ⟨w.heap.size, k, none⟩ = false := fun k => World.frozen?_alloc_at _ _ _ _ rfl
  have hA1 := h.keep hb
  have c0 := hA1.c0
  obtain ⟨l, D, hq, hp⟩ := hA1.qv
  have HHas := Lib.hid (qhas_any _ hq.m x.no hxk)
  rw [(hq.p.perm_no x.no).2 ⟨x, hp.mem_iff.2 hx, rfl⟩] at HHas
  have HRm := Lib.hid (aremove_any _ hA1 hl hx)
  have HZ := Lib.hid (And.intro hr0 (And.intro hf0 (FpA.out h)))
  have HB := Lib.hid hb
  unfold itV
  clear h hb hr0 hf0 hA1 hq hp hx hxk
  go_enter Try.func26, Try.ntmps26
  go_wp2_with fail
  refine HHas.out.mono ?_
  rintro e w1 ⟨rfl, rfl⟩
  clear HHas
  go_wp2_with fail
  refine HRm.out.mono ?_
  rintro e w2 ⟨rfl, lv', hA, ho, hf⟩
  have z0 := ho.cell (HZ.out.1 0 (by decide)) HZ.out.2.2
  have z1 := ho.cell (HZ.out.1 1 (by decide)) HZ.out.2.2
  have z2 := ho.cell (HZ.out.1 2 (by decide)) HZ.out.2.2
  have y : ∀ k, w2.frozen? ⟨w.heap.size, k, none⟩ = false := fun k => (ho.frozen (by simp) HZ.out.2.2).trans (HZ.out.2.1 k)
  have y0 := y 0
  have y1 := y 1
  have y2 := y 2
  have HE := Lib.hid (And.intro hA (And.intro ho hf))
  clear hA ho hf y HRm
  go_wp2_with fail
  exact bodyPost_ret (v := .tuple #[.agg #[.int .i64 x.d, .int .i64 x.no, .int .i64 x.tag], .int .i64 0]) (by simp [results, Try.results26, go_sem, z0, z1, z2]) rfl ⟨rfl, lv', HE.out.1.set3 (fun c => (HE.out.2.2 _ c).elim HZ.out.2.2 (fun e => by rw [World.size_alloc] at e; omega)) _ _ _, ((Off.of HB.out).both HE.out.2.1).set3 (Nat.le_refl _) _ _ _, fun k c => (HE.out.2.2 k c).imp id (fun e => Nat.le_trans HB.out.size e)⟩
set_option maxRecDepth 100000 in
set_option maxHeartbeats 4000000 in
theorem adrop_no (w : World) {base a q bm n : Nat} {lv : Value} {L : List It} (h : AgV w base a q bm lv L n) (no : Int) (hk : I64 no) (hno : ∀ x ∈ L, x.no ≠ no) :
    Calls Try.prog 26 #[.pointer (some ⟨a, 0, none⟩), .int .i64 no] w fun e w' => e = .returned (.tuple #[zIt, .int .i64 16]) ∧ Below w.heap.size w w' := by
  have hb := newF w (.cells #[.int .i64 0, .int .i64 0, .int .i64 0] 31)
  have hA1 := h.keep hb
  have c0 := hA1.c0
  obtain ⟨l, D, hq, hp⟩ := hA1.qv
  have HHas := Lib.hid (qhas_any _ hq.m no hk)
  have hfl : Maps.has D (kI no) = false := by
    cases hc : Maps.has D (kI no) with
    | false => rfl
    | true =>
      obtain ⟨x, hx, e⟩ := (hq.p.perm_no _).1 hc
      exact absurd e (hno x (hp.mem_iff.1 hx))
  rw [hfl] at HHas
  have HB := Lib.hid hb
  unfold zIt
  clear h hb hA1 hq hp hfl hk hno
  go_enter Try.func26, Try.ntmps26
  go_wp2_with fail
  refine HHas.out.mono ?_
  rintro e w1 ⟨rfl, rfl⟩
  clear HHas
  go_wp2_with fail
  exact bodyPost_ret (v := .tuple #[.agg #[.int .i64 0, .int .i64 0, .int .i64 0], .int .i64 16]) (by simp [results, Try.results26, go_sem]) rfl ⟨rfl, newF _ _⟩

end Go.Proofs.Ytkfcaafjnolhgaa

/-
  chattellaw11.does over an agenda: what it answers.
-/
import Derived.Test.YtkfcaafjnolhgaaAgY
namespace Go.Proofs.Ytkfcaafjnolhgaa
open Go.RowKit Go.Lib Go.Maps Go.Sort Go.Shelf
set_option linter.unusedVariables false
set_option linter.unusedSimpArgs false

/-- An agenda behind a call. -/
def Aft (w : World) (base a q bm : Nat) (lv : Value) (L' : List It) (n' : Nat) (w' : World) : Prop :=
  ∃ lv', AgV w' base a q bm lv' L' n' ∧ Off (FpA a q bm lv) w w' ∧ (∀ k, FpA a q bm lv' k → FpA a q bm lv k ∨ w.heap.size ≤ k)
theorem AgV.aft {w w' : World} {base a q bm n : Nat} {lv : Value} {L : List It} (h : AgV w base a q bm lv L n) (hb : Below w.heap.size w w') : Aft w base a q bm lv L n w' := ⟨lv, h.keep hb, Off.of hb, fun k c => .inl c⟩
theorem AgV.afs {w : World} {base a q bm n : Nat} {lv : Value} {L : List It} (h : AgV w base a q bm lv L n) : Aft w base a q bm lv L n w := h.aft (Below.refl _ _)
theorem aft_fin {w W w1 : World} {base a q bm n n' : Nat} {lv lv' : Value} {L L' : List It} (h : AgV w base a q bm lv L n) (hB : Below w.heap.size w W) (hsz : W.heap.size = w.heap.size + 1 + 1) (hE : AgV w1 base a q bm lv' L' n' ∧ Off (FpA a q bm lv) W w1 ∧ (∀ k, FpA a q bm lv' k → FpA a q bm lv k ∨ W.heap.size ≤ k)) (x y z : Value) :
    Aft w base a q bm lv L' n' (((w1.setCell ⟨w.heap.size + 1, 0, none⟩ x).setCell ⟨w.heap.size + 1, 1, none⟩ y).setCell ⟨w.heap.size + 1, 2, none⟩ z) :=
  ⟨lv', hE.1.set3 (fun c => (hE.2.2 _ c).elim (fun c => by have := h.hi _ c; omega) (fun e => by omega)) _ _ _, ((Off.of hB).both hE.2.1).set3 (Nat.le_succ _) _ _ _, fun k c => (hE.2.2 k c).imp id (fun e => by omega)⟩
set_option maxRecDepth 100000 in
set_option maxHeartbeats 2000000 in
theorem does_put (w : World) {base a q bm n n' : Nat} {lv : Value} {L L' : List It} (h : AgV w base a q bm lv L n) (d t nn er : Int) (hC : ∀ W, AgV W base a q bm lv L n → Calls Try.prog 25 #[.pointer (some ⟨a, 0, none⟩), .int .i64 d, .int .i64 t] W fun e w' => e = .returned (.tuple #[.int .i64 nn, .int .i64 er]) ∧ Aft W base a q bm lv L' n' w') :
    Calls Try.prog 11 #[.pointer (some ⟨a, 0, none⟩), .agg #[.int .i64 0, .int .i64 d, .int .i64 t]] w fun e w' => e = .returned (.tuple #[itV ⟨0, nn, 0⟩, .int .i64 er]) ∧ Aft w base a q bm lv L' n' w' := by
  have hb := onF (newF w (.cells #[.int .i64 0, .int .i64 d, .int .i64 t] 36)) (newF (w.alloc (.cells #[.int .i64 0, .int .i64 d, .int .i64 t] 36)) (.cells #[.int .i64 0, .int .i64 0, .int .i64 0] 31))
  have hk : ∀ i v, (#[.int .i64 0, .int .i64 d, .int .i64 t] : Array Value)[i]? = some v → ((w.alloc (.cells #[.int .i64 0, .int .i64 d, .int .i64 t] 36)).alloc (.cells #[.int .i64 0, .int .i64 0, .int .i64 0] 31)).cell? ⟨w.heap.size, i, none⟩ = some v := fun i v hv => (World.cell?_alloc_past _ _ _ (by simp)).trans ((World.cell?_alloc_at _ _ _ _ rfl).trans hv)
  have k0 := hk 0 (.int .i64 0) rfl
  have k1 := hk 1 (.int .i64 d) rfl
  have k2 := hk 2 (.int .i64 t) rfl
  have hr0 : ∀ j, j < 3 → ((w.alloc (.cells #[.int .i64 0, .int .i64 d, .int .i64 t] 36)).alloc (.cells #[.int .i64 0, .int .i64 0, .int .i64 0] 31)).cell? ⟨w.heap.size + 1, j, none⟩ = some (.int .i64 0) := fun j hj => by
    rw [World.cell?_alloc_at _ _ _ _ (by simp)]
    rcases (show j = 0 ∨ j = 1 ∨ j = 2 by omega) with rfl | rfl | rfl <;> rfl
  have hf0 : ∀ j, ((w.alloc (.cells #[.int .i64 0, .int .i64 d, .int .i64 t] 36)).alloc (.cells #[.int .i64 0, .int .i64 0, .int .i64 0] 31)).frozen? ⟨w.heap.size + 1, j, none⟩ = false := fun j => World.frozen?_alloc_at _ _ _ _ (by simp)
  have hsz : ((w.alloc (.cells #[.int .i64 0, .int .i64 d, .int .i64 t] 36)).alloc (.cells #[.int .i64 0, .int .i64 0, .int .i64 0] 31)).heap.size = w.heap.size + 1 + 1 := by simp
  have hnR : ¬ FpA a q bm lv (w.heap.size + 1) := fun c => by have := h.hi _ c; omega
  have HC := Lib.hid (hC _ (h.keep hb))
  have HA := Lib.hid h
  have HB := Lib.hid hb
  have HZ := Lib.hid (And.intro hr0 (And.intro hf0 (And.intro hsz hnR)))
  unfold itV
  clear hb hk hr0 hf0 hsz hnR hC h
  go_enter Try.func11, Try.ntmps11
  go_wp2_with fail
  generalize (w.alloc (.cells #[.int .i64 0, .int .i64 d, .int .i64 t] 36)).alloc (.cells #[.int .i64 0, .int .i64 0, .int .i64 0] 31) = W at *
  refine HC.out.mono ?_
  rintro e w1 ⟨rfl, lv', hA, ho, hf⟩
  have z0 := ho.cell (HZ.out.1 0 (by decide)) HZ.out.2.2.2
  have z1 := ho.cell (HZ.out.1 1 (by decide)) HZ.out.2.2.2
  have z2 := ho.cell (HZ.out.1 2 (by decide)) HZ.out.2.2.2
  have hy : ∀ k, w1.frozen? ⟨w.heap.size + 1, k, none⟩ = false := fun k => (ho.frozen (by rw [HZ.out.2.2.1]; omega) HZ.out.2.2.2).trans (HZ.out.2.1 k)
  have y0 := hy 0
  have y1 := hy 1
  have y2 := hy 2
  have HE := Lib.hid (And.intro hA (And.intro ho hf))
  clear hA ho hf hy HC
  go_wp2_with fail
  exact bodyPost_ret (v := .tuple #[.agg #[.int .i64 0, .int .i64 nn, .int .i64 0], .int .i64 er]) (by simp [results, Try.results11, go_sem, z0, z1, z2]) rfl ⟨rfl, aft_fin HA.out HB.out HZ.out.2.2.1 HE.out _ _ _⟩
set_option maxRecDepth 100000 in
set_option maxHeartbeats 2000000 in
theorem does_take (w : World) {base a q bm n n' : Nat} {lv : Value} {L L' : List It} (h : AgV w base a q bm lv L n) (d t : Int) (x : It) (hC : ∀ W, AgV W base a q bm lv L n → Calls Try.prog 20 #[.pointer (some ⟨a, 0, none⟩), .int .i64 d] W fun e w' => e = .returned (.tuple #[itV x, .bool true]) ∧ Aft W base a q bm lv L' n' w') :
    Calls Try.prog 11 #[.pointer (some ⟨a, 0, none⟩), .agg #[.int .i64 1, .int .i64 d, .int .i64 t]] w fun e w' => e = .returned (.tuple #[itV x, .int .i64 0]) ∧ Aft w base a q bm lv L' n' w' := by
  unfold itV at hC
  have hb := onF (newF w (.cells #[.int .i64 1, .int .i64 d, .int .i64 t] 36)) (newF (w.alloc (.cells #[.int .i64 1, .int .i64 d, .int .i64 t] 36)) (.cells #[.int .i64 0, .int .i64 0, .int .i64 0] 31))
  have hk : ∀ i v, (#[.int .i64 1, .int .i64 d, .int .i64 t] : Array Value)[i]? = some v → ((w.alloc (.cells #[.int .i64 1, .int .i64 d, .int .i64 t] 36)).alloc (.cells #[.int .i64 0, .int .i64 0, .int .i64 0] 31)).cell? ⟨w.heap.size, i, none⟩ = some v := fun i v hv => (World.cell?_alloc_past _ _ _ (by simp)).trans ((World.cell?_alloc_at _ _ _ _ rfl).trans hv)
  have k0 := hk 0 (.int .i64 1) rfl
  have k1 := hk 1 (.int .i64 d) rfl
  have k2 := hk 2 (.int .i64 t) rfl
  have hr0 : ∀ j, j < 3 → ((w.alloc (.cells #[.int .i64 1, .int .i64 d, .int .i64 t] 36)).alloc (.cells #[.int .i64 0, .int .i64 0, .int .i64 0] 31)).cell? ⟨w.heap.size + 1, j, none⟩ = some (.int .i64 0) := fun j hj => by
    rw [World.cell?_alloc_at _ _ _ _ (by simp)]
    rcases (show j = 0 ∨ j = 1 ∨ j = 2 by omega) with rfl | rfl | rfl <;> rfl
  have hf0 : ∀ j, ((w.alloc (.cells #[.int .i64 1, .int .i64 d, .int .i64 t] 36)).alloc (.cells #[.int .i64 0, .int .i64 0, .int .i64 0] 31)).frozen? ⟨w.heap.size + 1, j, none⟩ = false := fun j => World.frozen?_alloc_at _ _ _ _ (by simp)
  have hsz : ((w.alloc (.cells #[.int .i64 1, .int .i64 d, .int .i64 t] 36)).alloc (.cells #[.int .i64 0, .int .i64 0, .int .i64 0] 31)).heap.size = w.heap.size + 1 + 1 := by simp
  have hnR : ¬ FpA a q bm lv (w.heap.size + 1) := fun c => by have := h.hi _ c; omega
  have HC := Lib.hid (hC _ (h.keep hb))
  have HA := Lib.hid h
  have HB := Lib.hid hb
  have HZ := Lib.hid (And.intro hr0 (And.intro hf0 (And.intro hsz hnR)))
  unfold itV
  clear hb hk hr0 hf0 hsz hnR hC h
  go_enter Try.func11, Try.ntmps11
  go_wp2_with fail
  generalize (w.alloc (.cells #[.int .i64 1, .int .i64 d, .int .i64 t] 36)).alloc (.cells #[.int .i64 0, .int .i64 0, .int .i64 0] 31) = W at *
  refine HC.out.mono ?_
  rintro e w1 ⟨rfl, lv', hA, ho, hf⟩
  have hb2 := newF w1 (.cells #[.int .i64 x.d, .int .i64 x.no, .int .i64 x.tag] 31)
  have z0 := keepF hb2 (ho.cell (HZ.out.1 0 (by decide)) HZ.out.2.2.2)
  have z1 := keepF hb2 (ho.cell (HZ.out.1 1 (by decide)) HZ.out.2.2.2)
  have z2 := keepF hb2 (ho.cell (HZ.out.1 2 (by decide)) HZ.out.2.2.2)
  have hlt : w.heap.size + 1 < w1.heap.size := ltF (ho.cell (HZ.out.1 0 (by decide)) HZ.out.2.2.2)
  have hy : ∀ k, (w1.alloc (.cells #[.int .i64 x.d, .int .i64 x.no, .int .i64 x.tag] 31)).frozen? ⟨w.heap.size + 1, k, none⟩ = false := fun k => (hb2.frozen (p := ⟨w.heap.size + 1, k, none⟩) hlt).trans ((ho.frozen (by rw [HZ.out.2.2.1]; omega) HZ.out.2.2.2).trans (HZ.out.2.1 k))
  have y0 := hy 0
  have y1 := hy 1
  have y2 := hy 2
  have HE := Lib.hid (And.intro (hA.keep hb2) (And.intro (ho.both (Off.of hb2)) hf))
  clear hA ho hf hy HC hb2 hlt
  go_wp2_with fail
  exact bodyPost_ret (v := .tuple #[.agg #[.int .i64 x.d, .int .i64 x.no, .int .i64 x.tag], .int .i64 0]) (by simp [results, Try.results11, go_sem, z0, z1, z2]) rfl ⟨rfl, aft_fin HA.out HB.out HZ.out.2.2.1 HE.out _ _ _⟩
set_option maxRecDepth 100000 in
set_option maxHeartbeats 2000000 in
theorem does_none (w : World) {base a q bm n n' : Nat} {lv : Value} {L L' : List It} (h : AgV w base a q bm lv L n) (d t : Int) (x : It) (hC : ∀ W, AgV W base a q bm lv L n → Calls Try.prog 20 #[.pointer (some ⟨a, 0, none⟩), .int .i64 d] W fun e w' => e = .returned (.tuple #[itV x, .bool false]) ∧ Aft W base a q bm lv L' n' w') :
    Calls Try.prog 11 #[.pointer (some ⟨a, 0, none⟩), .agg #[.int .i64 1, .int .i64 d, .int .i64 t]] w fun e w' => e = .returned (.tuple #[itV x, .int .i64 16]) ∧ Aft w base a q bm lv L' n' w' := by
  unfold itV at hC
  have hb := onF (newF w (.cells #[.int .i64 1, .int .i64 d, .int .i64 t] 36)) (newF (w.alloc (.cells #[.int .i64 1, .int .i64 d, .int .i64 t] 36)) (.cells #[.int .i64 0, .int .i64 0, .int .i64 0] 31))
  have hk : ∀ i v, (#[.int .i64 1, .int .i64 d, .int .i64 t] : Array Value)[i]? = some v → ((w.alloc (.cells #[.int .i64 1, .int .i64 d, .int .i64 t] 36)).alloc (.cells #[.int .i64 0, .int .i64 0, .int .i64 0] 31)).cell? ⟨w.heap.size, i, none⟩ = some v := fun i v hv => (World.cell?_alloc_past _ _ _ (by simp)).trans ((World.cell?_alloc_at _ _ _ _ rfl).trans hv)
  have k0 := hk 0 (.int .i64 1) rfl
  have k1 := hk 1 (.int .i64 d) rfl
  have k2 := hk 2 (.int .i64 t) rfl
  have hr0 : ∀ j, j < 3 → ((w.alloc (.cells #[.int .i64 1, .int .i64 d, .int .i64 t] 36)).alloc (.cells #[.int .i64 0, .int .i64 0, .int .i64 0] 31)).cell? ⟨w.heap.size + 1, j, none⟩ = some (.int .i64 0) := fun j hj => by
    rw [World.cell?_alloc_at _ _ _ _ (by simp)]
    rcases (show j = 0 ∨ j = 1 ∨ j = 2 by omega) with rfl | rfl | rfl <;> rfl
  have hf0 : ∀ j, ((w.alloc (.cells #[.int .i64 1, .int .i64 d, .int .i64 t] 36)).alloc (.cells #[.int .i64 0, .int .i64 0, .int .i64 0] 31)).frozen? ⟨w.heap.size + 1, j, none⟩ = false := fun j => World.frozen?_alloc_at _ _ _ _ (by simp)
  have hsz : ((w.alloc (.cells #[.int .i64 1, .int .i64 d, .int .i64 t] 36)).alloc (.cells #[.int .i64 0, .int .i64 0, .int .i64 0] 31)).heap.size = w.heap.size + 1 + 1 := by simp
  have hnR : ¬ FpA a q bm lv (w.heap.size + 1) := fun c => by have := h.hi _ c; omega
  have HC := Lib.hid (hC _ (h.keep hb))
  have HA := Lib.hid h
  have HB := Lib.hid hb
  have HZ := Lib.hid (And.intro hr0 (And.intro hf0 (And.intro hsz hnR)))
  unfold itV
  clear hb hk hr0 hf0 hsz hnR hC h
  go_enter Try.func11, Try.ntmps11
  go_wp2_with fail
  generalize (w.alloc (.cells #[.int .i64 1, .int .i64 d, .int .i64 t] 36)).alloc (.cells #[.int .i64 0, .int .i64 0, .int .i64 0] 31) = W at *
  refine HC.out.mono ?_
  rintro e w1 ⟨rfl, lv', hA, ho, hf⟩
  have hb2 := newF w1 (.cells #[.int .i64 x.d, .int .i64 x.no, .int .i64 x.tag] 31)
  have z0 := keepF hb2 (ho.cell (HZ.out.1 0 (by decide)) HZ.out.2.2.2)
  have z1 := keepF hb2 (ho.cell (HZ.out.1 1 (by decide)) HZ.out.2.2.2)
  have z2 := keepF hb2 (ho.cell (HZ.out.1 2 (by decide)) HZ.out.2.2.2)
  have hlt : w.heap.size + 1 < w1.heap.size := ltF (ho.cell (HZ.out.1 0 (by decide)) HZ.out.2.2.2)
  have hy : ∀ k, (w1.alloc (.cells #[.int .i64 x.d, .int .i64 x.no, .int .i64 x.tag] 31)).frozen? ⟨w.heap.size + 1, k, none⟩ = false := fun k => (hb2.frozen (p := ⟨w.heap.size + 1, k, none⟩) hlt).trans ((ho.frozen (by rw [HZ.out.2.2.1]; omega) HZ.out.2.2.2).trans (HZ.out.2.1 k))
  have y0 := hy 0
  have y1 := hy 1
  have y2 := hy 2
  have HE := Lib.hid (And.intro (hA.keep hb2) (And.intro (ho.both (Off.of hb2)) hf))
  clear hA ho hf hy HC hb2 hlt
  go_wp2_with fail
  exact bodyPost_ret (v := .tuple #[.agg #[.int .i64 x.d, .int .i64 x.no, .int .i64 x.tag], .int .i64 16]) (by simp [results, Try.results11, go_sem, z0, z1, z2]) rfl ⟨rfl, aft_fin HA.out HB.out HZ.out.2.2.1 HE.out _ _ _⟩
set_option maxRecDepth 100000 in
set_option maxHeartbeats 2000000 in
theorem does_drop (w : World) {base a q bm n n' : Nat} {lv : Value} {L L' : List It} (h : AgV w base a q bm lv L n) (d t er : Int) (x : It) (hC : ∀ W, AgV W base a q bm lv L n → Calls Try.prog 26 #[.pointer (some ⟨a, 0, none⟩), .int .i64 t] W fun e w' => e = .returned (.tuple #[itV x, .int .i64 er]) ∧ Aft W base a q bm lv L' n' w') :
    Calls Try.prog 11 #[.pointer (some ⟨a, 0, none⟩), .agg #[.int .i64 2, .int .i64 d, .int .i64 t]] w fun e w' => e = .returned (.tuple #[itV x, .int .i64 er]) ∧ Aft w base a q bm lv L' n' w' := by
  unfold itV at hC
  have hb := onF (newF w (.cells #[.int .i64 2, .int .i64 d, .int .i64 t] 36)) (newF (w.alloc (.cells #[.int .i64 2, .int .i64 d, .int .i64 t] 36)) (.cells #[.int .i64 0, .int .i64 0, .int .i64 0] 31))
  have hk : ∀ i v, (#[.int .i64 2, .int .i64 d, .int .i64 t] : Array Value)[i]? = some v → ((w.alloc (.cells #[.int .i64 2, .int .i64 d, .int .i64 t] 36)).alloc (.cells #[.int .i64 0, .int .i64 0, .int .i64 0] 31)).cell? ⟨w.heap.size, i, none⟩ = some v := fun i v hv => (World.cell?_alloc_past _ _ _ (by simp)).trans ((World.cell?_alloc_at _ _ _ _ rfl).trans hv)
  have k0 := hk 0 (.int .i64 2) rfl
  have k1 := hk 1 (.int .i64 d) rfl
  have k2 := hk 2 (.int .i64 t) rfl
  have hr0 : ∀ j, j < 3 → ((w.alloc (.cells #[.int .i64 2, .int .i64 d, .int .i64 t] 36)).alloc (.cells #[.int .i64 0, .int .i64 0, .int .i64 0] 31)).cell? ⟨w.heap.size + 1, j, none⟩ = some (.int .i64 0) := fun j hj => by
    rw [World.cell?_alloc_at _ _ _ _ (by simp)]
    rcases (show j = 0 ∨ j = 1 ∨ j = 2 by omega) with rfl | rfl | rfl <;> rfl
  have hf0 : ∀ j, ((w.alloc (.cells #[.int .i64 2, .int .i64 d, .int .i64 t] 36)).alloc (.cells #[.int .i64 0, .int .i64 0, .int .i64 0] 31)).frozen? ⟨w.heap.size + 1, j, none⟩ = false := fun j => World.frozen?_alloc_at _ _ _ _ (by simp)
  have hsz : ((w.alloc (.cells #[.int .i64 2, .int .i64 d, .int .i64 t] 36)).alloc (.cells #[.int .i64 0, .int .i64 0, .int .i64 0] 31)).heap.size = w.heap.size + 1 + 1 := by simp
  have hnR : ¬ FpA a q bm lv (w.heap.size + 1) := fun c => by have := h.hi _ c; omega
  have HC := Lib.hid (hC _ (h.keep hb))
  have HA := Lib.hid h
  have HB := Lib.hid hb
  have HZ := Lib.hid (And.intro hr0 (And.intro hf0 (And.intro hsz hnR)))
  unfold itV
  clear hb hk hr0 hf0 hsz hnR hC h
  go_enter Try.func11, Try.ntmps11
  go_wp2_with fail
  generalize (w.alloc (.cells #[.int .i64 2, .int .i64 d, .int .i64 t] 36)).alloc (.cells #[.int .i64 0, .int .i64 0, .int .i64 0] 31) = W at *
  refine HC.out.mono ?_
  rintro e w1 ⟨rfl, lv', hA, ho, hf⟩
  have z0 := ho.cell (HZ.out.1 0 (by decide)) HZ.out.2.2.2
  have z1 := ho.cell (HZ.out.1 1 (by decide)) HZ.out.2.2.2
  have z2 := ho.cell (HZ.out.1 2 (by decide)) HZ.out.2.2.2
  have hy : ∀ k, w1.frozen? ⟨w.heap.size + 1, k, none⟩ = false := fun k => (ho.frozen (by rw [HZ.out.2.2.1]; omega) HZ.out.2.2.2).trans (HZ.out.2.1 k)
  have y0 := hy 0
  have y1 := hy 1
  have y2 := hy 2
  have HE := Lib.hid (And.intro hA (And.intro ho hf))
  clear hA ho hf hy HC
  go_wp2_with fail
  exact bodyPost_ret (v := .tuple #[.agg #[.int .i64 x.d, .int .i64 x.no, .int .i64 x.tag], .int .i64 er]) (by simp [results, Try.results11, go_sem, z0, z1, z2]) rfl ⟨rfl, aft_fin HA.out HB.out HZ.out.2.2.1 HE.out _ _ _⟩
set_option maxRecDepth 100000 in
set_option maxHeartbeats 2000000 in
theorem does_move (w : World) {base a q bm n n' : Nat} {lv : Value} {L L' : List It} (h : AgV w base a q bm lv L n) (k d t er : Int) (c0 : ¬ k = 0) (c1 : ¬ k = 1) (c2 : ¬ k = 2) (hC : ∀ W, AgV W base a q bm lv L n → Calls Try.prog 23 #[.pointer (some ⟨a, 0, none⟩), .int .i64 t, .int .i64 d] W fun e w' => e = .returned (.int .i64 er) ∧ Aft W base a q bm lv L' n' w') :
    Calls Try.prog 11 #[.pointer (some ⟨a, 0, none⟩), .agg #[.int .i64 k, .int .i64 d, .int .i64 t]] w fun e w' => e = .returned (.tuple #[itV ⟨0, 0, 0⟩, .int .i64 er]) ∧ Aft w base a q bm lv L' n' w' := by
  have hb := onF (newF w (.cells #[.int .i64 k, .int .i64 d, .int .i64 t] 36)) (newF (w.alloc (.cells #[.int .i64 k, .int .i64 d, .int .i64 t] 36)) (.cells #[.int .i64 0, .int .i64 0, .int .i64 0] 31))
  have hk : ∀ i v, (#[.int .i64 k, .int .i64 d, .int .i64 t] : Array Value)[i]? = some v → ((w.alloc (.cells #[.int .i64 k, .int .i64 d, .int .i64 t] 36)).alloc (.cells #[.int .i64 0, .int .i64 0, .int .i64 0] 31)).cell? ⟨w.heap.size, i, none⟩ = some v := fun i v hv => (World.cell?_alloc_past _ _ _ (by simp)).trans ((World.cell?_alloc_at _ _ _ _ rfl).trans hv)
  have k0 := hk 0 (.int .i64 k) rfl
  have k1 := hk 1 (.int .i64 d) rfl
  have k2 := hk 2 (.int .i64 t) rfl
  have hr0 : ∀ j, j < 3 → ((w.alloc (.cells #[.int .i64 k, .int .i64 d, .int .i64 t] 36)).alloc (.cells #[.int .i64 0, .int .i64 0, .int .i64 0] 31)).cell? ⟨w.heap.size + 1, j, none⟩ = some (.int .i64 0) := fun j hj => by
    rw [World.cell?_alloc_at _ _ _ _ (by simp)]
    rcases (show j = 0 ∨ j = 1 ∨ j = 2 by omega) with rfl | rfl | rfl <;> rfl
  have hf0 : ∀ j, ((w.alloc (.cells #[.int .i64 k, .int .i64 d, .int .i64 t] 36)).alloc (.cells #[.int .i64 0, .int .i64 0, .int .i64 0] 31)).frozen? ⟨w.heap.size + 1, j, none⟩ = false := fun j => World.frozen?_alloc_at _ _ _ _ (by simp)
  have hsz : ((w.alloc (.cells #[.int .i64 k, .int .i64 d, .int .i64 t] 36)).alloc (.cells #[.int .i64 0, .int .i64 0, .int .i64 0] 31)).heap.size = w.heap.size + 1 + 1 := by simp
  have hnR : ¬ FpA a q bm lv (w.heap.size + 1) := fun c => by have := h.hi _ c; omega
  have HC := Lib.hid (hC _ (h.keep hb))
  have HA := Lib.hid h
  have HB := Lib.hid hb
  have HZ := Lib.hid (And.intro hr0 (And.intro hf0 (And.intro hsz hnR)))
  unfold itV
  clear hb hk hr0 hf0 hsz hnR hC h
  go_enter Try.func11, Try.ntmps11
  go_wp2_with fail
  generalize (w.alloc (.cells #[.int .i64 k, .int .i64 d, .int .i64 t] 36)).alloc (.cells #[.int .i64 0, .int .i64 0, .int .i64 0] 31) = W at *
  refine HC.out.mono ?_
  rintro e w1 ⟨rfl, lv', hA, ho, hf⟩
  have z0 := ho.cell (HZ.out.1 0 (by decide)) HZ.out.2.2.2
  have z1 := ho.cell (HZ.out.1 1 (by decide)) HZ.out.2.2.2
  have z2 := ho.cell (HZ.out.1 2 (by decide)) HZ.out.2.2.2
  have hy : ∀ k, w1.frozen? ⟨w.heap.size + 1, k, none⟩ = false := fun k => (ho.frozen (by rw [HZ.out.2.2.1]; omega) HZ.out.2.2.2).trans (HZ.out.2.1 k)
  have y0 := hy 0
  have y1 := hy 1
  have y2 := hy 2
  have HE := Lib.hid (And.intro hA (And.intro ho hf))
  clear hA ho hf hy HC
  go_wp2_with fail
  exact bodyPost_ret (v := .tuple #[.agg #[.int .i64 0, .int .i64 0, .int .i64 0], .int .i64 er]) (by simp [results, Try.results11, go_sem, z0, z1, z2]) rfl ⟨rfl, aft_fin HA.out HB.out HZ.out.2.2.1 HE.out _ _ _⟩

end Go.Proofs.Ytkfcaafjnolhgaa

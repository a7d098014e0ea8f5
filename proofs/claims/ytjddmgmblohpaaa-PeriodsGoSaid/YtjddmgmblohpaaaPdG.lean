/-
  chattellaw13.PeriodsGo: its walk.
-/
import Derived.Test.YtjddmgmblohpaaaPdI
import Derived.Deep.Cut
namespace Go.Proofs.Ytjddmgmblohpaaa
open Go.RowKit Go.Lib Go.Maps Go.Sort Go.Shelf
set_option linter.unusedVariables false
set_option linter.unusedSimpArgs false
attribute [local go_sem] Oper.semAt_some

/-- The law's own: how many are locked, the result, the periods. -/
structure GoS (w wx : World) (p : Nat) (n : Int) (s j : Nat) : Prop where
  n0 : wx.cell? ⟨w.heap.size, 0, none⟩ = some (.int .i64 n)
  r0 : wx.cell? ⟨w.heap.size + 1, 0, none⟩ = some (.bool false)
  rf : wx.frozen? ⟨w.heap.size + 1, 0, none⟩ = false
  pd : PdV wx p s j
  lt : w.heap.size + 1 < p
  bel : Below w.heap.size w wx
theorem PdV.own {w w' : World} {B b s l : Nat} {row : Option Nat} (h : PdV w b s l) (hg : w.grownBy w' row) (hr : ∀ r, row = some r → B ≤ r ∧ ∃ o : Obj, w.heap[r]? = some o ∧ o.isCells = false) (hb : b < B) : PdV w' b s l :=
  ⟨cell_kept h.c0 hg (fun r e => (hr r e).2), cell_kept h.c1 hg (fun r e => (hr r e).2), (World.frozen?_of_block (a := ⟨b, 1, none⟩) (hg.block _ h.lt (fun e => by have h9 : B ≤ b := (hr _ e.symm).1; omega))).trans h.f1⟩
theorem GoS.keep {w wx wy : World} {p s j : Nat} {n : Int} (h : GoS w wx p n s j) (hb : Below wx.heap.size wx wy) : GoS w wy p n s j :=
  ⟨keepF hb h.n0, keepF hb h.r0, (hb.frozen (p := ⟨w.heap.size + 1, 0, none⟩) (ltF h.r0)).trans h.rf, h.pd.keep hb, h.lt, onF h.bel hb⟩
theorem GoS.lock {w wx wy : World} {p s j j' : Nat} {n : Int} (h : GoS w wx p n s j) (hp : PdV wy p s j') (ho : Off (fun k => k = p) wx wy) : GoS w wy p n s j' :=
  ⟨ho.cell h.n0 (fun e => by have := h.lt; omega), ho.cell h.r0 (fun e => by have := h.lt; omega), (ho.frozen (ltF h.r0) (fun e => by have := h.lt; omega)).trans h.rf, hp, h.lt, h.bel.trans (ho.below (n := w.heap.size) (fun k e => by have := h.lt; omega) h.bel.size)⟩
theorem GoS.own {w wx wy : World} {B p s j : Nat} {n : Int} {row : Option Nat} (h : GoS w wx p n s j) (hg : wx.grownBy wy row) (hr : ∀ r, row = some r → B ≤ r ∧ ∃ o : Obj, wx.heap[r]? = some o ∧ o.isCells = false) (hb : p < B) : GoS w wy p n s j :=
  ⟨cell_kept h.n0 hg (fun r e => (hr r e).2), cell_kept h.r0 hg (fun r e => (hr r e).2), (World.frozen?_of_block (a := ⟨w.heap.size + 1, 0, none⟩) (hg.block _ (ltF h.r0) (fun e => by have h9 : B ≤ w.heap.size + 1 := (hr _ e.symm).1; have := h.lt; omega))).trans h.rf, h.pd.own hg hr hb, h.lt, h.bel.grown hg h.bel.size (fun k e => by have := (hr k e).1; have := h.lt; omega)⟩
/-- A cell behind the periods that is set. -/
theorem GoS.setN {w wx : World} {X p s j : Nat} {n : Int} (h : GoS w wx p n s j) (hX : p < X) (v : Value) : GoS w (wx.setCell ⟨X, 0, none⟩ v) p n s j :=
  ⟨(cell_other (addr_ne_block (by have := h.lt; omega))).trans h.n0, (cell_other (addr_ne_block (by have := h.lt; omega))).trans h.r0, by rw [World.frozen?_setCell]; exact h.rf, ⟨(cell_other (addr_ne_block (by omega))).trans h.pd.c0, (cell_other (addr_ne_block (by omega))).trans h.pd.c1, by rw [World.frozen?_setCell]; exact h.pd.f1⟩, h.lt, Below.setCell h.bel (by have := h.lt; show w.heap.size ≤ X; omega) _⟩
/-- What All and Copy gave, as long as the periods are locked on. -/
structure GoT (wx : World) (c c2 B1 B2 p s n N : Nat) : Prop where
  a : PdV wx c s n
  b : PdV wx c2 s n
  k1 : wx.cell? ⟨B1, 0, none⟩ = some (.int .i64 (N : Nat))
  k2 : wx.cell? ⟨B2, 0, none⟩ = some (.func (.func 14) #[.pointer (some ⟨c, 0, none⟩)] #[])
  ne : c ≠ p ∧ c2 ≠ p ∧ B1 ≠ p ∧ B2 ≠ p
theorem GoT.keep {wx wy : World} {c c2 B1 B2 p s n N : Nat} (h : GoT wx c c2 B1 B2 p s n N) (hb : Below wx.heap.size wx wy) : GoT wy c c2 B1 B2 p s n N :=
  ⟨h.a.keep hb, h.b.keep hb, keepF hb h.k1, keepF hb h.k2, h.ne⟩
theorem GoT.lock {wx wy : World} {c c2 B1 B2 p s n N : Nat} (h : GoT wx c c2 B1 B2 p s n N) (ho : Off (fun k => k = p) wx wy) : GoT wy c c2 B1 B2 p s n N :=
  ⟨h.a.off ho h.ne.1, h.b.off ho h.ne.2.1, ho.cell h.k1 h.ne.2.2.1, ho.cell h.k2 h.ne.2.2.2, h.ne⟩
theorem GoT.own {wx wy : World} {B c c2 B1 B2 p s n N : Nat} {row : Option Nat} (h : GoT wx c c2 B1 B2 p s n N) (hg : wx.grownBy wy row) (hr : ∀ r, row = some r → B ≤ r ∧ ∃ o : Obj, wx.heap[r]? = some o ∧ o.isCells = false) (hb : c < B ∧ c2 < B) : GoT wy c c2 B1 B2 p s n N :=
  ⟨h.a.own hg hr hb.1, h.b.own hg hr hb.2, cell_kept h.k1 hg (fun r e => (hr r e).2), cell_kept h.k2 hg (fun r e => (hr r e).2), h.ne⟩
theorem GoT.setN {wx : World} {X c c2 B1 B2 p s n N : Nat} (h : GoT wx c c2 B1 B2 p s n N) (hX : c < X ∧ c2 < X ∧ B1 < X ∧ B2 < X) (v : Value) : GoT (wx.setCell ⟨X, 0, none⟩ v) c c2 B1 B2 p s n N :=
  ⟨⟨(cell_other (addr_ne_block (by omega))).trans h.a.c0, (cell_other (addr_ne_block (by omega))).trans h.a.c1, by rw [World.frozen?_setCell]; exact h.a.f1⟩, ⟨(cell_other (addr_ne_block (by omega))).trans h.b.c0, (cell_other (addr_ne_block (by omega))).trans h.b.c1, by rw [World.frozen?_setCell]; exact h.b.f1⟩, (cell_other (addr_ne_block (by omega))).trans h.k1, (cell_other (addr_ne_block (by omega))).trans h.k2, h.ne⟩
theorem set_oneP {w : World} {b c : Nat} {v : Value} (h : c ≠ b) : (w.setCell ⟨b, 0, none⟩ v).cell? ⟨c, 0, none⟩ = w.cell? ⟨c, 0, none⟩ := cell_other (addr_ne_block (Ne.symm h))
/-- The law's two cells, as they are made. -/
theorem go_boxes (w : World) (n : Int) : ((w.alloc (.cells #[.int .i64 n] 3)).alloc (.cells #[.bool false] 4)).cell? ⟨w.heap.size, 0, none⟩ = some (.int .i64 n) ∧ ((w.alloc (.cells #[.int .i64 n] 3)).alloc (.cells #[.bool false] 4)).cell? ⟨w.heap.size + 1, 0, none⟩ = some (.bool false) ∧ ((w.alloc (.cells #[.int .i64 n] 3)).alloc (.cells #[.bool false] 4)).frozen? ⟨w.heap.size + 1, 0, none⟩ = false ∧ Below w.heap.size w ((w.alloc (.cells #[.int .i64 n] 3)).alloc (.cells #[.bool false] 4)) ∧ ((w.alloc (.cells #[.int .i64 n] 3)).alloc (.cells #[.bool false] 4)).heap.size = w.heap.size + 1 + 1 := by
  have k1 : (w.alloc (.cells #[.int .i64 n] 3)).cell? ⟨w.heap.size, 0, none⟩ = some (.int .i64 n) := (World.cell?_alloc_at _ _ _ _ rfl).trans rfl
  refine ⟨keepF (newF _ _) k1, ?_, World.frozen?_alloc_at _ _ _ _ (by simp), onF (newF _ _) (newF _ _), by simp⟩
  exact (World.cell?_alloc_at _ _ _ _ (by simp)).trans rfl
set_option maxRecDepth 100000 in
set_option maxHeartbeats 4000000 in
theorem go_no (w : World) (s n m : Int) (h : s < 1 ∨ 400 < s) : Calls Try.prog 5 #[.int .i64 s, .int .i64 n, .int .i64 m] w fun e w' => e = .returned (.bool true) ∧ Below w.heap.size w w' := by
  have HA := Lib.hid (fun w' => awake13_any w')
  obtain ⟨b0, b1, b2, b3, b4⟩ := go_boxes w n
  have HBX := Lib.hid (And.intro b3 b4)
  have HR := Lib.hid (And.intro b0 (And.intro b1 b2))
  have HN := Lib.hid (new_no ((w.alloc (.cells #[.int .i64 n] 3)).alloc (.cells #[.bool false] 4)) s h)
  clear b0 b1 b2 b3 b4
  by_cases c : s < 100
  · clear h
    go_enter Try.func5, Try.ntmps5
    go_wp2_with fail
    generalize (w.alloc (.cells #[.int .i64 n] 3)).alloc (.cells #[.bool false] 4) = W at *
    refine HN.out.mono ?_
    rintro e w1 ⟨rfl, rfl⟩
    go_wp2_with fail
    refine (HA.out _).mono ?_
    rintro e wz ⟨rfl, hbz⟩
    have HBZ := Lib.hid (onF HBX.out.1 hbz)
    have r0 := keepF hbz (HR.out.2.1)
    have rf := (hbz.frozen (p := ⟨w.heap.size + 1, 0, none⟩) (ltF (HR.out.2.1))).trans (HR.out.2.2)
    clear hbz
    go_wp2_with fail
    exact bodyPost_ret (v := .bool true) (by simp [results, Try.results5, go_sem, r0]) rfl ⟨rfl, Below.setCell HBZ.out (Nat.le_succ _) _⟩
  · have c2 : 400 < s := by omega
    clear h
    go_enter Try.func5, Try.ntmps5
    go_wp2_with fail
    generalize (w.alloc (.cells #[.int .i64 n] 3)).alloc (.cells #[.bool false] 4) = W at *
    refine HN.out.mono ?_
    rintro e w1 ⟨rfl, rfl⟩
    go_wp2_with fail
    refine (HA.out _).mono ?_
    rintro e wz ⟨rfl, hbz⟩
    have HBZ := Lib.hid (onF HBX.out.1 hbz)
    have r0 := keepF hbz (HR.out.2.1)
    have rf := (hbz.frozen (p := ⟨w.heap.size + 1, 0, none⟩) (ltF (HR.out.2.1))).trans (HR.out.2.2)
    clear hbz
    go_wp2_with fail
    exact bodyPost_ret (v := .bool true) (by simp [results, Try.results5, go_sem, r0]) rfl ⟨rfl, Below.setCell HBZ.out (Nat.le_succ _) _⟩
set_option maxRecDepth 100000 in
set_option maxHeartbeats 4000000 in
theorem go_small (w : World) (s : Nat) (n m : Int) (h1 : 1 ≤ s) (h : s < 100) : Calls Try.prog 5 #[.int .i64 (s : Nat), .int .i64 n, .int .i64 m] w fun e w' => e = .returned (.bool true) ∧ Below w.heap.size w w' := by
  have HA := Lib.hid (fun w' => awake13_any w')
  obtain ⟨b0, b1, b2, b3, b4⟩ := go_boxes w n
  have HBX := Lib.hid (And.intro b3 b4)
  have HR := Lib.hid (And.intro b0 (And.intro b1 b2))
  have HN := Lib.hid (new_yes ((w.alloc (.cells #[.int .i64 n] 3)).alloc (.cells #[.bool false] 4)) s h1 (by omega))
  clear b0 b1 b2 b3 b4
  go_enter Try.func5, Try.ntmps5
  go_wp2_with fail
  generalize (w.alloc (.cells #[.int .i64 n] 3)).alloc (.cells #[.bool false] 4) = W at *
  refine HN.out.mono ?_
  rintro e w1 ⟨rfl, hp, hb⟩
  have HB1 := Lib.hid (onF HBX.out.1 hb)
  have HP1 := Lib.hid hp
  have HR1 := Lib.hid (And.intro (keepF hb HR.out.1) (And.intro (keepF hb HR.out.2.1) ((hb.frozen (p := ⟨w.heap.size + 1, 0, none⟩) (ltF HR.out.2.1)).trans HR.out.2.2)))
  have n0 := HR1.out.1
  clear hp hb HN
  go_wp2_with fail
  refine (HA.out _).mono ?_
  rintro e wz ⟨rfl, hbz⟩
  have HBZ := Lib.hid (onF HB1.out hbz)
  have r0 := keepF hbz (HR1.out.2.1)
  have rf := (hbz.frozen (p := ⟨w.heap.size + 1, 0, none⟩) (ltF (HR1.out.2.1))).trans (HR1.out.2.2)
  clear hbz
  go_wp2_with fail
  exact bodyPost_ret (v := .bool true) (by simp [results, Try.results5, go_sem, r0]) rfl ⟨rfl, Below.setCell HBZ.out (Nat.le_succ _) _⟩
set_option maxRecDepth 100000 in
set_option maxHeartbeats 4000000 in
theorem go_c0 (w : World) (s : Nat) (n m : Int) (h20 : 100 ≤ s) (h4 : s ≤ 400) (c : n < 0) : Calls Try.prog 5 #[.int .i64 (s : Nat), .int .i64 n, .int .i64 m] w fun e w' => e = .returned (.bool true) ∧ Below w.heap.size w w' := by
  have HA := Lib.hid (fun w' => awake13_any w')
  obtain ⟨b0, b1, b2, b3, b4⟩ := go_boxes w n
  have HBX := Lib.hid (And.intro b3 b4)
  have HR := Lib.hid (And.intro b0 (And.intro b1 b2))
  have HN := Lib.hid (new_yes ((w.alloc (.cells #[.int .i64 n] 3)).alloc (.cells #[.bool false] 4)) s (by omega) h4)
  clear b0 b1 b2 b3 b4
  go_enter Try.func5, Try.ntmps5
  go_wp2_with fail
  generalize (w.alloc (.cells #[.int .i64 n] 3)).alloc (.cells #[.bool false] 4) = W at *
  refine HN.out.mono ?_
  rintro e w1 ⟨rfl, hp, hb⟩
  have HB1 := Lib.hid (onF HBX.out.1 hb)
  have HP1 := Lib.hid hp
  have HR1 := Lib.hid (And.intro (keepF hb HR.out.1) (And.intro (keepF hb HR.out.2.1) ((hb.frozen (p := ⟨w.heap.size + 1, 0, none⟩) (ltF HR.out.2.1)).trans HR.out.2.2)))
  have n0 := HR1.out.1
  clear hp hb HN
  go_wp2_with fail
  refine (HA.out _).mono ?_
  rintro e wz ⟨rfl, hbz⟩
  have HBZ := Lib.hid (onF HB1.out hbz)
  have r0 := keepF hbz (HR1.out.2.1)
  have rf := (hbz.frozen (p := ⟨w.heap.size + 1, 0, none⟩) (ltF (HR1.out.2.1))).trans (HR1.out.2.2)
  clear hbz
  go_wp2_with fail
  exact bodyPost_ret (v := .bool true) (by simp [results, Try.results5, go_sem, r0]) rfl ⟨rfl, Below.setCell HBZ.out (Nat.le_succ _) _⟩
set_option maxRecDepth 100000 in
set_option maxHeartbeats 4000000 in
theorem go_c1 (w : World) (s : Nat) (n m : Int) (h20 : 100 ≤ s) (h4 : s ≤ 400) (c : 20 < n) : Calls Try.prog 5 #[.int .i64 (s : Nat), .int .i64 n, .int .i64 m] w fun e w' => e = .returned (.bool true) ∧ Below w.heap.size w w' := by
  have HA := Lib.hid (fun w' => awake13_any w')
  obtain ⟨b0, b1, b2, b3, b4⟩ := go_boxes w n
  have HBX := Lib.hid (And.intro b3 b4)
  have HR := Lib.hid (And.intro b0 (And.intro b1 b2))
  have HN := Lib.hid (new_yes ((w.alloc (.cells #[.int .i64 n] 3)).alloc (.cells #[.bool false] 4)) s (by omega) h4)
  clear b0 b1 b2 b3 b4
  have c2 : ¬ n < 0 := by omega
  go_enter Try.func5, Try.ntmps5
  go_wp2_with fail
  generalize (w.alloc (.cells #[.int .i64 n] 3)).alloc (.cells #[.bool false] 4) = W at *
  refine HN.out.mono ?_
  rintro e w1 ⟨rfl, hp, hb⟩
  have HB1 := Lib.hid (onF HBX.out.1 hb)
  have HP1 := Lib.hid hp
  have HR1 := Lib.hid (And.intro (keepF hb HR.out.1) (And.intro (keepF hb HR.out.2.1) ((hb.frozen (p := ⟨w.heap.size + 1, 0, none⟩) (ltF HR.out.2.1)).trans HR.out.2.2)))
  have n0 := HR1.out.1
  clear hp hb HN
  go_wp2_with fail
  refine (HA.out _).mono ?_
  rintro e wz ⟨rfl, hbz⟩
  have HBZ := Lib.hid (onF HB1.out hbz)
  have r0 := keepF hbz (HR1.out.2.1)
  have rf := (hbz.frozen (p := ⟨w.heap.size + 1, 0, none⟩) (ltF (HR1.out.2.1))).trans (HR1.out.2.2)
  clear hbz
  go_wp2_with fail
  exact bodyPost_ret (v := .bool true) (by simp [results, Try.results5, go_sem, r0]) rfl ⟨rfl, Below.setCell HBZ.out (Nat.le_succ _) _⟩
set_option maxRecDepth 100000 in
set_option maxHeartbeats 4000000 in
theorem go_c2 (w : World) (s : Nat) (n m : Int) (h20 : 100 ≤ s) (h4 : s ≤ 400) (z0 : 0 ≤ n) (n1 : n ≤ 20) (c : m < 0) : Calls Try.prog 5 #[.int .i64 (s : Nat), .int .i64 n, .int .i64 m] w fun e w' => e = .returned (.bool true) ∧ Below w.heap.size w w' := by
  have HA := Lib.hid (fun w' => awake13_any w')
  obtain ⟨b0, b1, b2, b3, b4⟩ := go_boxes w n
  have HBX := Lib.hid (And.intro b3 b4)
  have HR := Lib.hid (And.intro b0 (And.intro b1 b2))
  have HN := Lib.hid (new_yes ((w.alloc (.cells #[.int .i64 n] 3)).alloc (.cells #[.bool false] 4)) s (by omega) h4)
  clear b0 b1 b2 b3 b4
  have c2 : ¬ n < 0 := by omega
  go_enter Try.func5, Try.ntmps5
  go_wp2_with fail
  generalize (w.alloc (.cells #[.int .i64 n] 3)).alloc (.cells #[.bool false] 4) = W at *
  refine HN.out.mono ?_
  rintro e w1 ⟨rfl, hp, hb⟩
  have HB1 := Lib.hid (onF HBX.out.1 hb)
  have HP1 := Lib.hid hp
  have HR1 := Lib.hid (And.intro (keepF hb HR.out.1) (And.intro (keepF hb HR.out.2.1) ((hb.frozen (p := ⟨w.heap.size + 1, 0, none⟩) (ltF HR.out.2.1)).trans HR.out.2.2)))
  have n0 := HR1.out.1
  clear hp hb HN
  go_wp2_with fail
  refine (HA.out _).mono ?_
  rintro e wz ⟨rfl, hbz⟩
  have HBZ := Lib.hid (onF HB1.out hbz)
  have r0 := keepF hbz (HR1.out.2.1)
  have rf := (hbz.frozen (p := ⟨w.heap.size + 1, 0, none⟩) (ltF (HR1.out.2.1))).trans (HR1.out.2.2)
  clear hbz
  go_wp2_with fail
  exact bodyPost_ret (v := .bool true) (by simp [results, Try.results5, go_sem, r0]) rfl ⟨rfl, Below.setCell HBZ.out (Nat.le_succ _) _⟩
set_option maxRecDepth 100000 in
set_option maxHeartbeats 4000000 in
theorem go_c3 (w : World) (s : Nat) (n m : Int) (h20 : 100 ≤ s) (h4 : s ≤ 400) (z0 : 0 ≤ n) (n1 : n ≤ 20) (c : 20 < m) : Calls Try.prog 5 #[.int .i64 (s : Nat), .int .i64 n, .int .i64 m] w fun e w' => e = .returned (.bool true) ∧ Below w.heap.size w w' := by
  have HA := Lib.hid (fun w' => awake13_any w')
  obtain ⟨b0, b1, b2, b3, b4⟩ := go_boxes w n
  have HBX := Lib.hid (And.intro b3 b4)
  have HR := Lib.hid (And.intro b0 (And.intro b1 b2))
  have HN := Lib.hid (new_yes ((w.alloc (.cells #[.int .i64 n] 3)).alloc (.cells #[.bool false] 4)) s (by omega) h4)
  clear b0 b1 b2 b3 b4
  have c2 : ¬ n < 0 := by omega
  have c3 : ¬ m < 0 := by omega
  go_enter Try.func5, Try.ntmps5
  go_wp2_with fail
  generalize (w.alloc (.cells #[.int .i64 n] 3)).alloc (.cells #[.bool false] 4) = W at *
  refine HN.out.mono ?_
  rintro e w1 ⟨rfl, hp, hb⟩
  have HB1 := Lib.hid (onF HBX.out.1 hb)
  have HP1 := Lib.hid hp
  have HR1 := Lib.hid (And.intro (keepF hb HR.out.1) (And.intro (keepF hb HR.out.2.1) ((hb.frozen (p := ⟨w.heap.size + 1, 0, none⟩) (ltF HR.out.2.1)).trans HR.out.2.2)))
  have n0 := HR1.out.1
  clear hp hb HN
  go_wp2_with fail
  refine (HA.out _).mono ?_
  rintro e wz ⟨rfl, hbz⟩
  have HBZ := Lib.hid (onF HB1.out hbz)
  have r0 := keepF hbz (HR1.out.2.1)
  have rf := (hbz.frozen (p := ⟨w.heap.size + 1, 0, none⟩) (ltF (HR1.out.2.1))).trans (HR1.out.2.2)
  clear hbz
  go_wp2_with fail
  exact bodyPost_ret (v := .bool true) (by simp [results, Try.results5, go_sem, r0]) rfl ⟨rfl, Below.setCell HBZ.out (Nat.le_succ _) _⟩
set_option maxRecDepth 100000 in
set_option maxHeartbeats 16000000 in
theorem go_in (w : World) (s n m : Nat) (h20 : 100 ≤ s) (h4 : s ≤ 400) (hn : n ≤ 20) (hm : m ≤ 20) : Calls Try.prog 5 #[.int .i64 (s : Nat), .int .i64 (n : Nat), .int .i64 (m : Nat)] w fun e w' => e = .returned (.bool true) ∧ Below w.heap.size w w' := by
  have HA := Lib.hid (fun w' => awake13_any w')
  obtain ⟨b0, b1, b2, b3, b4⟩ := go_boxes w (n : Nat)
  have HBX := Lib.hid (And.intro b3 b4)
  have HR := Lib.hid (And.intro b0 (And.intro b1 b2))
  have HN := Lib.hid (new_yes ((w.alloc (.cells #[.int .i64 (n : Nat)] 3)).alloc (.cells #[.bool false] 4)) s (by omega) h4)
  clear b0 b1 b2 b3 b4
  have HLk := Lib.hid (fun w' b j hk => lock_any w' (b := b) (s := s) (l := j) hk (by omega) h4 j 73048)
  have HUp := Lib.hid (fun l hl => lkE_up (s := s) (l := l) (by omega) h4 hl)
  have HAll := Lib.hid (fun w' b l hk => pall_any w' (b := b) (s := s) (l := l) hk (by omega) h4)
  have HCp := Lib.hid (fun w' b l hk => copy_any w' (b := b) (s := s) (l := l) hk)
  have HEa := Lib.hid (fun w' b l hk => earl_any w' (b := b) (s := s) (l := l) hk (by omega) h4)
  have HEu := Lib.hid (fun l hl => eaE_up (s := s) (l := l) (by omega) h4 hl)
  have HLs := Lib.hid (fun w' b l hk => last_any w' (b := b) (s := s) (l := l) hk (by omega) h4)
  obtain ⟨N, hN⟩ : ∃ N : Nat, lastP s = (N : Int) := ⟨73048 / s, rfl⟩
  have hN2 : N ≤ 73048 := by have := lastP_le s; omega
  have HNN := Lib.hid (And.intro hN hN2)
  have n20 : (n : Int) ≤ 20 := by omega
  have m20 : (m : Int) ≤ 20 := by omega
  have nn0 : (0 : Int) ≤ (n : Int) := by omega
  have mm0 : (0 : Int) ≤ (m : Int) := by omega
  have hq := fnil_eqP
  clear hN
  obtain ⟨q, hq4⟩ : ∃ q : Nat, 4 ≤ q := ⟨4, by omega⟩
  have hq1 : 1 ≤ q := by omega
  refine callsIn_wide.1 (callsIn_of_wp_marks (n := q) Try.func5 rfl trivial ?_ rfl)
  simp only [Try.ntmps5, List.size_toArray, List.length_cons, List.length_nil, Nat.reduceAdd, Nat.reduceSub, Array.replicate_succ, Array.replicate_zero, List.push_toArray, List.append_toArray, List.nil_append, List.cons_append]
  refine wpIn_wide.2 ?_
  go_wp2_with fail
  generalize hW0 : (w.alloc (.cells #[.int .i64 (n : Nat)] 3)).alloc (.cells #[.bool false] 4) = W at *
  clear hW0
  refine HN.out.mono ?_
  rintro e w1 ⟨rfl, hp, hb⟩
  have HB1 := Lib.hid (onF HBX.out.1 hb)
  have HP1 := Lib.hid hp
  have HR1 := Lib.hid (And.intro (keepF hb HR.out.1) (And.intro (keepF hb HR.out.2.1) ((hb.frozen (p := ⟨w.heap.size + 1, 0, none⟩) (ltF HR.out.2.1)).trans HR.out.2.2)))
  have n0 := HR1.out.1
  clear hp hb HN
  go_wp2_with fail
  have HS1 : Hid (GoS w w1 W.heap.size (n : Nat) s 0) := Lib.hid ⟨HR1.out.1, HR1.out.2.1, HR1.out.2.2, HP1.out, by have := HBX.out.2; omega, HB1.out⟩
  clear HP1 HR1 HB1 HR n0
  generalize W.heap.size = p at *
  go_loopw [9] (fun vi wx => ∃ j : Nat, j ≤ n ∧ vi = .int .i64 (j : Nat) ∧ GoS w wx p (n : Nat) s j) (fun vi _ => n - (RowKit.intOf vi).toNat)
  case atStart => exact ⟨0, by omega, rfl, HS1.out⟩
  case round =>
    obtain ⟨j, hj, rfl, hS⟩ := hrel
    have HS := Lib.hid hS
    have n0 := hS.n0
    clear hS HS1
    by_cases c1 : j < n
    · have j1 : (j : Int) < (n : Int) := by omega
      have HC := Lib.hid c1
      have HL := HLk.out wr p j HS.out.pd
      rw [HUp.out j (by omega), if_pos rfl] at HL
      have HL := Lib.hid HL
      clear c1 hj
      go_wp2_with fail
      refine HL.out.mono ?_
      rintro e w2 ⟨rfl, hp, ho⟩
      have HS2 := Lib.hid (HS.out.lock hp ho)
      clear hp ho n0
      go_wp2_with fail
      go_roundw
      case rel => exact ⟨j + 1, HC.out, by go_num, HS2.out⟩
      case measure => have := HC.out; simp [RowKit.intOf]; omega
    · obtain rfl : j = n := by omega
      have j1 : ¬ (j : Int) < (j : Int) := by omega
      clear c1 hj
      go_wp2_with fail
      refine (HAll.out _ _ _ HS.out.pd).mono ?_
      rintro e w2 ⟨c, B1, B2, rfl, hp, hc, hB, k1, k2, hb⟩
      have HS2 := Lib.hid (HS.out.keep hb)
      have HP2 := Lib.hid hp
      have HK2 := Lib.hid (And.intro k1 k2)
      have HC2 : Hid (c ≠ p ∧ B1 ≠ p ∧ B2 ≠ p ∧ p < wr.heap.size) := Lib.hid (by have := HS.out.pd.lt; exact ⟨by omega, by omega, by omega, this⟩)
      clear hp hc hB k1 k2 hb n0 HAll
      go_wp2_with fail
      refine (HCp.out _ _ _ HS2.out.pd).mono ?_
      rintro e w3 ⟨c2, rfl, hp, hc, hb⟩
      have HS3 := Lib.hid (HS2.out.keep hb)
      have HT3 : Hid (GoT w3 c c2 B1 B2 p s j N) := Lib.hid ⟨HP2.out.keep hb, hp, keepF hb (by rw [← HNN.out.1]; exact HK2.out.1), keepF hb HK2.out.2, HC2.out.1, by have := HS2.out.pd.lt; omega, HC2.out.2.1, HC2.out.2.2.1⟩
      clear hp hc hb HP2 HK2 HCp
      have n0 := HS3.out.n0
      go_wp2_with fail
      go_loopw [12] (fun vi wx => ∃ i : Nat, i ≤ m ∧ vi = .int .i64 (i : Nat) ∧ GoS w wx p (j : Nat) s (j + i) ∧ GoT wx c c2 B1 B2 p s j N) (fun vi _ => m - (RowKit.intOf vi).toNat)
      case atStart => exact ⟨0, by omega, rfl, HS3.out, HT3.out⟩
      case round =>
        obtain ⟨i, hi, rfl, hS, hT⟩ := hrel
        have HS4 := Lib.hid hS
        have HT4 := Lib.hid hT
        clear n0
        have n0 := hS.n0
        clear hS hT HS3 HT3 HS HS2
        by_cases c1 : i < m
        · have i1 : (i : Int) < (m : Int) := by omega
          have i0 : (0 : Int) ≤ (i : Int) := by omega
          have HC := Lib.hid c1
          have HL := HLk.out wr p (j + i) HS4.out.pd
          rw [HUp.out (j + i) (by omega), if_pos rfl, show ((j + i : Nat) : Int) = (j : Int) + (i : Int) by omega] at HL
          have HL := Lib.hid HL
          clear c1 hi
          go_wp2_with fail
          refine HL.out.mono ?_
          rintro e w5 ⟨rfl, hp, ho⟩
          have HS5 := Lib.hid (HS4.out.lock hp ho)
          have HT5 := Lib.hid (HT4.out.lock ho)
          clear hp ho n0
          go_wp2_with fail
          go_roundw
          case rel => exact ⟨i + 1, HC.out, by go_num, HS5.out, HT5.out⟩
          case measure => have := HC.out; simp [RowKit.intOf]; omega
        · obtain rfl : i = m := by omega
          have i1 : ¬ (i : Int) < (i : Int) := by omega
          clear c1 hi HLk HUp
          go_wp2_with fail
          have b7 := newF wr (.cells #[.int .i64 0] 3)
          have x0 : (wr.alloc (.cells #[.int .i64 0] 3)).cell? ⟨wr.heap.size, 0, none⟩ = some (.int .i64 0) := (World.cell?_alloc_at _ _ _ _ rfl).trans rfl
          have xf : (wr.alloc (.cells #[.int .i64 0] 3)).frozen? ⟨wr.heap.size, 0, none⟩ = false := World.frozen?_alloc_at _ _ _ _ rfl
          have hst := upto_it (q - 1) (by omega) B1 B2 c s j N HNN.out.1 HNN.out.2 wr HT4.out.k1 HT4.out.k2 HT4.out.a
          have HS7 := Lib.hid (HS4.out.keep b7)
          have HT7 := Lib.hid (HT4.out.keep b7)
          have hz7 : (wr.alloc (.cells #[.int .i64 0] 3)).heap.size = wr.heap.size + 1 := by simp
          have HLt := Lib.hid (show p < wr.heap.size ∧ c < wr.heap.size ∧ c2 < wr.heap.size ∧ B1 < wr.heap.size ∧ B2 < wr.heap.size from ⟨HS4.out.pd.lt, HT4.out.a.lt, HT4.out.b.lt, ltF HT4.out.k1, ltF HT4.out.k2⟩)
          have HZ := Lib.hid hz7
          clear HS4 HT4
          generalize wr.alloc (.cells #[.int .i64 0] 3) = W7 at *
          refine wpIn_wide.1 (wpIn_rangeFunc_ownH rfl hq1 (gf := 25) (lb := #[.pointer (some ⟨B1, 0, none⟩), .pointer (some ⟨B2, 0, none⟩)]) rfl trivial (enters_of Try.func25 (by kernel_rfl) rfl)
            hst (fun h h' => h.trans h') (fun W l o o' h1 h2 h3 h4 => belowK_b (w := wr) (Nat.le_refl _) W l o o' (by omega) h2 h3 h4) b7 (fun x => rfl)
            (fun pre W => pre = List.range pre.length ∧ GoS w W p (j : Nat) s (j + i) ∧ GoT W c c2 B1 B2 p s j N ∧ W.cell? ⟨wr.heap.size, 0, none⟩ = some (.int .i64 (pre.length : Nat)) ∧ W.frozen? ⟨wr.heap.size, 0, none⟩ = false)
            (fun _ pre _ => pre ≠ List.range pre.length)
            (fun s A C row hs hg hr => by
              obtain ⟨q1, q2, q3, q4, q5⟩ := hs
              exact ⟨q1, q2.own hg hr (by have := HLt.out; have := HZ.out; omega), q3.own hg hr (by have := HLt.out; have := HZ.out; omega), cell_kept q4 hg (fun r e => (hr r e).2), (World.frozen?_of_block (a := ⟨wr.heap.size, 0, none⟩) (hg.block _ (ltF q4) (fun e => by have h9 : W7.heap.size ≤ wr.heap.size := (hr _ e.symm).1; have := HZ.out; omega))).trans q5⟩)
            (fun _ _ _ _ _ hs _ _ => hs)
            ⟨rfl, HS7.out, HT7.out, x0, xf⟩
            (fun x a' W => a' = { tmps := #[.int .i64 ((s : Nat) : Int), .int .i64 ((j : Nat) : Int), .int .i64 ((i : Nat) : Int), undef, .pointer (some ⟨w.heap.size, 0, none⟩), undef, .pointer (some ⟨w.heap.size + 1, 0, none⟩), .pointer (some ⟨p, 0, none⟩), .int .i64 0, .int .i64 ((j : Nat) : Int), .func (.func 25) #[] #[.pointer (some ⟨B1, 0, none⟩), .pointer (some ⟨B2, 0, none⟩)], .pointer (some ⟨c2, 0, none⟩), .int .i64 ((i : Nat) : Int), .pointer (some ⟨wr.heap.size, 0, none⟩), .int .i64 (x : Nat), .bool (lkB j (x : Int)), undef, undef, undef, undef, .tuple #[.pointer (some ⟨p, 0, none⟩), .int .i64 0], .int .i64 ((s : Nat) : Int), .tuple #[.pointer (some ⟨p, 0, none⟩), .int .i64 0], .pointer (some ⟨p, 0, none⟩), .int .i64 0, .int .i64 ((s : Nat) : Int), .bool (decide (((s : Nat) : Int) < 100)), .bool (decide (((s : Nat) : Int) < 100)), .int .i64 0, .bool false, .bool (decide (((s : Nat) : Int) < 100)), .bool (decide (((s : Nat) : Int) < 100)), .pointer (some ⟨p, 0, none⟩), .bool false, .bool (decide (((s : Nat) : Int) < 100)), .bool (decide (((s : Nat) : Int) < 100)), .int .i64 ((j : Nat) : Int), .bool (decide (((j : Nat) : Int) < 0)), .bool (decide (((s : Nat) : Int) < 100) || decide (((j : Nat) : Int) < 0)), .bool (decide (((s : Nat) : Int) < 100) || decide (((j : Nat) : Int) < 0)), .int .i64 ((j : Nat) : Int), .bool (decide (20 < ((j : Nat) : Int))), .bool (decide (((s : Nat) : Int) < 100) || decide (((j : Nat) : Int) < 0) || decide (20 < ((j : Nat) : Int))), .bool (decide (((s : Nat) : Int) < 100) || decide (((j : Nat) : Int) < 0) || decide (20 < ((j : Nat) : Int))), .int .i64 ((i : Nat) : Int), .bool (decide (((i : Nat) : Int) < 0)), .bool (decide (((s : Nat) : Int) < 100) || decide (((j : Nat) : Int) < 0) || decide (20 < ((j : Nat) : Int)) || decide (((i : Nat) : Int) < 0)), .bool (decide (((s : Nat) : Int) < 100) || decide (((j : Nat) : Int) < 0) || decide (20 < ((j : Nat) : Int)) || decide (((i : Nat) : Int) < 0)), .int .i64 ((i : Nat) : Int), .bool (decide (20 < ((i : Nat) : Int))), .bool (decide (((s : Nat) : Int) < 100) || decide (((j : Nat) : Int) < 0) || decide (20 < ((j : Nat) : Int)) || decide (((i : Nat) : Int) < 0) || decide (20 < ((i : Nat) : Int))), undef, undef, undef, undef, undef, undef, undef, undef, undef, undef, undef, undef, undef, .int .i64 ((j : Nat) : Int), .int .i64 ((j : Nat) : Int), .bool false, u67, u68, u69, u70, u71, .pointer (some ⟨p, 0, none⟩), .func (.func 25) #[] #[.pointer (some ⟨B1, 0, none⟩), .pointer (some ⟨B2, 0, none⟩)], .pointer (some ⟨p, 0, none⟩), .pointer (some ⟨c2, 0, none⟩), .func (.func 25) #[] #[.pointer (some ⟨B1, 0, none⟩), .pointer (some ⟨B2, 0, none⟩)], .bool false, .bool false, .pointer (some ⟨c2, 0, none⟩), .bool false, .bool false, .int .i64 ((i : Nat) : Int), .int .i64 ((i : Nat) : Int), .bool false, u85, u86, u87, u88, u89, u90, u91, .func (.func 25) #[] #[.pointer (some ⟨B1, 0, none⟩), .pointer (some ⟨B2, 0, none⟩)], .int .i64 (x : Nat), .bool (lkB j (x : Int)), undef, undef, undef, undef, undef, undef, undef, undef, undef, undef, undef, undef, undef, undef, undef, undef, undef, undef, undef, undef, undef, undef, undef, undef, undef, undef, undef, undef, undef, undef, undef, undef, undef, undef, undef, undef, undef, undef, undef, undef, undef, undef, undef, undef, undef, undef, undef, undef, undef, undef], defers := [] })
            (fun _ _ _ _ _ _ hs _ _ => hs)
            ?assign ?body ?done ?stop)
          case assign =>
            rintro l pre x W K hI hK
            gi_wp2
            exact hK _ _ (KeepsFrom.refl _ _) (Below.refl _ _) hI rfl
          case body =>
            rintro l pre x a' W hl hr ⟨q1, q2, q3, q4, q5⟩ rfl hlt
            have n0 := q2.n0
            have r0 := q2.r0
            have rf := q2.rf
            have hlt2 : (pre.length : Int) ≤ 73048 := by have := HNN.out.2; omega
            have HSn := Lib.hid (fun v => q2.setN (X := wr.heap.size) HLt.out.1 v)
            have HTn := Lib.hid (fun v => q3.setN (X := wr.heap.size) ⟨HLt.out.2.1, HLt.out.2.2.1, HLt.out.2.2.2.1, HLt.out.2.2.2.2⟩ v)
            have HN0 := Lib.hid (fun v => cell_same (v := v) q4)
            have HNf : Hid (∀ v, (W.setCell ⟨wr.heap.size, 0, none⟩ v).frozen? ⟨wr.heap.size, 0, none⟩ = false) := Lib.hid (fun v => by rw [World.frozen?_setCell]; exact q5)
            clear hlt q2 q3
            by_cases cx : x = pre.length
            · subst cx
              have HQ := Lib.hid q1
              clear q1
              have hz : (0 : Int) ≤ (pre.length : Int) := by omega
              by_cases cj : pre.length < j
              · have cj1 : (pre.length : Int) < (j : Int) := by omega
                have e : lkB j (pre.length : Int) = true := by unfold lkB; exact decide_eq_true (by omega)
                rw [e]
                clear e cj
                gi_wp2
                refine ⟨(KeepsOthers.setCell _ _ _).from _, ?_, ?_, HSn.out _, HTn.out _, ?_, HNf.out _⟩
                · have hs : RowKit.Below wr.heap.size W (W.setCell ⟨wr.heap.size, 0, none⟩ (.int .i64 ((pre.length : Int) + 1))) := by
                    refine RowKit.Below.setCell (RowKit.Below.refl _ _) ?_ _
                    exact Nat.le_refl _
                  exact hs
                · rw [List.length_append, List.length_singleton, List.range_succ, ← HQ.out]
                · have e : (((pre ++ [pre.length]).length : Nat) : Int) = (pre.length : Int) + 1 := by simp
                  rw [e]; exact HN0.out _
              · have cj1 : ¬ (pre.length : Int) < (j : Int) := by omega
                have e : lkB j (pre.length : Int) = false := by unfold lkB; exact decide_eq_false (by omega)
                rw [e]
                clear e cj
                gi_wp2
                refine ⟨(KeepsOthers.setCell _ _ _).from _, ?_, ?_, HSn.out _, HTn.out _, ?_, HNf.out _⟩
                · have hs : RowKit.Below wr.heap.size W (W.setCell ⟨wr.heap.size, 0, none⟩ (.int .i64 ((pre.length : Int) + 1))) := by
                    refine RowKit.Below.setCell (RowKit.Below.refl _ _) ?_ _
                    exact Nat.le_refl _
                  exact hs
                · rw [List.length_append, List.length_singleton, List.range_succ, ← HQ.out]
                · have e : (((pre ++ [pre.length]).length : Nat) : Int) = (pre.length : Int) + 1 := by simp
                  rw [e]; exact HN0.out _
            · have bx : ((x : Int) != (pre.length : Int)) = true := by simpa using (show ¬ (x : Int) = (pre.length : Int) by omega)
              have HX : Hid (pre ++ [x] ≠ List.range (pre ++ [x]).length) := Lib.hid (fun e => by
                have h := congrArg (·[pre.length]?) e
                simp at h
                exact cx h)
              clear q1 cx
              generalize lkB j (x : Int) = lk at *
              gi_wp2
              exact ⟨(KeepsOthers.setCell _ _ _).from _, HX.out⟩
          case done =>
            rintro D ys W hD rfl ⟨q1, q2, q3, q4, q5⟩ hK
            rw [List.length_range] at q4
            have HDl : Hid (D < W.heap.size) := Lib.hid (Array.getElem?_eq_some_iff.1 hK).1
            have HK := Lib.hid hK
            have HS8 := Lib.hid q2
            have HT8 := Lib.hid q3
            have HX8 := Lib.hid q4
            clear q1 q2 q3 q4 q5 hK hst x0 xf
            have HE1 := HEa.out W c2 j HT8.out.b
            rw [(HEu.out j (by omega)).1, (HEu.out j (by omega)).2] at HE1
            have HE1 := Lib.hid HE1
            go_wp2_with fail
            refine HE1.out.mono ?_
            rintro e w9 ⟨rfl, hb⟩
            have HB9 := Lib.hid hb
            have HE2 := HEa.out w9 p (j + i) (HS8.out.keep hb).pd
            rw [(HEu.out (j + i) (by omega)).1, (HEu.out (j + i) (by omega)).2, show ((j + i : Nat) : Int) = (j : Int) + (i : Int) by omega] at HE2
            have HE2 := Lib.hid HE2
            clear hb HE1
            go_wp2_with fail
            refine HE2.out.mono ?_
            rintro e wA ⟨rfl, hb⟩
            have HBA := Lib.hid (onF HB9.out hb)
            have HL := HLs.out
            have HL := Lib.hid (fun w' hk => HL w' p (j + i) hk)
            rw [HNN.out.1] at HL
            have HBD := Lib.hid (show RowKit.Below W.heap.size W wA.drew from HBA.out.drew)
            have HSA := Lib.hid (HS8.out.keep HBD.out)
            have n0 := HSA.out.n0
            have x0 := keepF HBD.out HX8.out
            rw [show ((N + 1 : Nat) : Int) = (N : Int) + 1 by omega] at x0
            have n00 : (0 : Int) ≤ (N : Int) := by omega
            have hw1 : IntKind.i64.wrap ((N : Int) + 1) = (N : Int) + 1 := IntWalk.i64_in _ (by omega)
            have hw2 : IntKind.i64.wrap ((j : Int) + (i : Int)) = (j : Int) + (i : Int) := IntWalk.i64_in _ (by omega)
            have e1 : ((N : Int) + 1 == (N : Int) + 1) = true := beq_self_eq_true _
            have e2 : ((j : Int) == (j : Int)) = true := beq_self_eq_true _
            have e3 : ((j : Int) + (i : Int) == (j : Int) + (i : Int)) = true := beq_self_eq_true _
            have r0 := HSA.out.r0
            have rf := HSA.out.rf
            have n73 : (N : Int) ≤ 73048 := by have := HNN.out.2; omega
            have HNe := Lib.hid (show w.heap.size ≠ w.heap.size + 1 ∧ wr.heap.size ≠ w.heap.size + 1 from by have h1 := HLt.out.1; have h2 := HS8.out.lt; exact ⟨by omega, by omega⟩)
            clear hb HE2 HLs HEa HEu
            go_wp2_with fail
            go_region_held3 (fun w' => w'.cell? ⟨w.heap.size, 0, none⟩ = some (.int .i64 (j : Nat)) ∧ w'.cell? ⟨wr.heap.size, 0, none⟩ = some (.int .i64 ((N : Int) + 1))) (first | (with_reducible exact ⟨n0, x0⟩) | (with_reducible exact ⟨(set_oneP HNe.out.1).trans n0, (set_oneP HNe.out.2).trans x0⟩))
              (first
              | (go_at_call 17; (with_reducible refine (HL.out _ HSA.out.pd).mono ?_); rintro e wB ⟨rfl, hb⟩; have HBB := Lib.hid (onF HBD.out hb); have n0 := keepF hb n0; have x0 := keepF hb x0; have rf := (hb.frozen (p := ⟨w.heap.size + 1, 0, none⟩) (ltF r0)).trans rf; have r0 := keepF hb r0)
              | (go_at_call 10; (with_reducible refine (HA.out _).mono ?_); rintro e wC ⟨rfl, hb⟩; have HBC := Lib.hid (onF HBB.out hb); have n0 := keepF hb n0; have x0 := keepF hb x0; have rf := (hb.frozen (p := ⟨w.heap.size + 1, 0, none⟩) (ltF r0)).trans rf; have r0 := keepF hb r0))
            all_goals go_wp2
            all_goals
              have hKd := (HBC.out.block D HDl.out).trans HK.out
              have hKw := (KeepsOthers.setCell wC ⟨w.heap.size + 1, 0, none⟩ (.bool true)).same D _ hKd rfl
              refine ⟨by simp, .inl ⟨_, _, rfl, run_takeDeferred hKw, ?_⟩⟩
              have f0 : (wC.setCell ⟨w.heap.size + 1, 0, none⟩ (.bool true)).cell? ⟨w.heap.size + 1, 0, none⟩ = some (.bool true) := cell_same r0
              have g0 := cell_kept f0 (grownBy_putObj' _ D (.deferred none)) (fun r e => by cases e; exact ⟨_, hKw, rfl⟩)
              have hbw : RowKit.Below w.heap.size w (wC.setCell ⟨w.heap.size + 1, 0, none⟩ (.bool true)) := by
                refine RowKit.Below.setCell (onF HS8.out.bel HBC.out) ?_ _
                exact Nat.le_succ _
              exact ⟨.bool true, by simp [results, Try.results5, go_sem, g0], rfl, hbw.trans (belowK_b (w := w) (Nat.le_refl _) _ D _ _ (by have h1 := HLt.out.1; have h2 := HS8.out.lt; have h3 := HZ.out; omega) hKw rfl rfl)⟩
          case stop =>
            rintro D cc pre W _ ⟨k, rfl⟩ h _
            exact absurd (by rw [List.length_range]) h
theorem go13_walk (w : World) (s n m : Int) : Calls Try.prog 5 #[.int .i64 s, .int .i64 n, .int .i64 m] w fun e w' => e = .returned (.bool true) ∧ Below w.heap.size w w' := by
  by_cases c : s < 1 ∨ 400 < s
  · exact go_no w s n m c
  obtain ⟨s, rfl⟩ : ∃ k : Nat, s = k := ⟨s.toNat, by omega⟩
  by_cases c1 : s < 100
  · exact go_small w s n m (by omega) c1
  by_cases c2 : n < 0
  · exact go_c0 w s n m (by omega) (by omega) c2
  by_cases c3 : 20 < n
  · exact go_c1 w s n m (by omega) (by omega) c3
  by_cases c4 : m < 0
  · exact go_c2 w s n m (by omega) (by omega) (by omega) (by omega) c4
  by_cases c5 : 20 < m
  · exact go_c3 w s n m (by omega) (by omega) (by omega) (by omega) c5
  obtain ⟨n, rfl⟩ : ∃ k : Nat, n = k := ⟨n.toNat, by omega⟩
  obtain ⟨m, rfl⟩ : ∃ k : Nat, m = k := ⟨m.toNat, by omega⟩
  exact go_in w s n m (by omega) (by omega) (by omega) (by omega)

end Go.Proofs.Ytjddmgmblohpaaa

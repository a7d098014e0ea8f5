/-
  Package days: dayOf, Day: what they answer.
-/
import Derived.Test.YtfeaopaglhlojaaDoorDayD
namespace Go.Proofs.YtfeaopaglhlojaaDoor
open Go.RowKit Go.Lib
set_option linter.unusedVariables false

def I64d (n : Int) : Prop := -9223372036854775808 ≤ n ∧ n ≤ 9223372036854775807
/-- The month that dayOf looks for. -/
def mthI (y m : Int) : Int := wrap64 (wrap64 (wrap64 (wrap64 (y - 2000) * 12) + m) - 1)

set_option maxHeartbeats 1000000 in
set_option maxRecDepth 100000 in
theorem dayOf_far (y m d : Int) (hy : I64d y) (hm : I64d m) (hd : I64d d) (h : mthI y m < 0 ∨ 2400 ≤ mthI y m) (w : World) :
    Calls Tryd.prog 47 #[.agg #[.int .i64 y, .int .i64 m, .int .i64 d]] w fun e w' => e = .returned (.tuple #[.int .i64 0, .int .i64 18]) ∧ Below w.heap.size w w' := by
  have HB := Lib.hid (fun w => bounds_no (mthI y m) h w)
  unfold mthI at HB
  clear h
  go_enter Tryd.func47, Tryd.ntmps47
  go_wp2_with fail
  refine (HB.out _).mono ?_
  rintro e w1 ⟨rfl, rfl⟩
  go_wp2_with fail
  go_ret2
  exact ⟨rfl, below_new w _⟩

set_option maxHeartbeats 1000000 in
set_option maxRecDepth 100000 in
theorem dayOf_none (y m d : Int) (k : Nat) (hk : k < 2400) (hM : mthI y m = k) (D : Int) (hD : wrap64 (wrap64 ((fstN k : Int) + d) - 1) = D) (h : D < 0 ∨ 73048 < D) (w : World) (L : LenW w) :
    Calls Tryd.prog 47 #[.agg #[.int .i64 y, .int .i64 m, .int .i64 d]] w fun e w' => e = .returned (.tuple #[.int .i64 0, .int .i64 18]) ∧ Below w.heap.size w w' := by
  have L1 := L.keep (below_new w (.cells #[.int .i64 y, .int .i64 m, .int .i64 d] 79))
  have HB := Lib.hid (bounds_any k hk _ L1)
  have HO := Lib.hid (fun w => dateOf_no D h w)
  unfold mthI at hM
  generalize fstN k = F at *
  generalize lngN k = N at *
  clear h L L1
  go_enter Tryd.func47, Tryd.ntmps47
  go_wp2_with fail
  refine HB.out.mono ?_
  rintro e w1 ⟨rfl, rfl⟩
  go_wp2_with fail
  refine (HO.out _).mono ?_
  rintro e w2 ⟨rfl, hb⟩
  have HW := Lib.hid (bel_on (below_new w _) hb)
  have hc0 := hb.cell (p := ⟨w.heap.size, 0, none⟩) (by simp)
  clear hb hc0
  go_wp2_with fail
  go_ret2
  exact ⟨rfl, bel_on HW.out (below_new w2 _)⟩

theorem box3 {w w2 : World} {x y z : Value} {t : TypeId} (hb : Below (w.alloc (.cells #[x, y, z] t)).heap.size (w.alloc (.cells #[x, y, z] t)) w2) :
    w2.cell? ⟨w.heap.size, 0, none⟩ = some x ∧ w2.cell? ⟨w.heap.size, 1, none⟩ = some y ∧ w2.cell? ⟨w.heap.size, 2, none⟩ = some z := by
  have hn : ∀ i v, (#[x, y, z] : Array Value)[i]? = some v → (w.alloc (.cells #[x, y, z] t)).cell? ⟨w.heap.size, i, none⟩ = some v := by
    intro i v h
    rw [World.cell?_alloc_at _ _ _ _ rfl]; exact h
  have hlt : w.heap.size < (w.alloc (.cells #[x, y, z] t)).heap.size := by simp
  exact ⟨(hb.cell (p := ⟨_, 0, none⟩) hlt).trans (hn 0 x rfl), (hb.cell (p := ⟨_, 1, none⟩) hlt).trans (hn 1 y rfl), (hb.cell (p := ⟨_, 2, none⟩) hlt).trans (hn 2 z rfl)⟩

set_option maxHeartbeats 1000000 in
set_option maxRecDepth 100000 in
theorem dayOf_same (y m d : Int) (k : Nat) (hk : k < 2400) (hM : mthI y m = k) (D : Nat) (hD : wrap64 (wrap64 ((fstN k : Int) + d) - 1) = D) (h : D < 73049) (hy : y = yrN D) (hm : m = moN D) (hd : d = daN D) (w : World) (L : LenW w) :
    Calls Tryd.prog 47 #[.agg #[.int .i64 y, .int .i64 m, .int .i64 d]] w fun e w' => e = .returned (.tuple #[.int .i64 D, .int .i64 0]) ∧ Below w.heap.size w w' := by
  have L1 := L.keep (below_new w (.cells #[.int .i64 y, .int .i64 m, .int .i64 d] 79))
  have HB := Lib.hid (bounds_any k hk _ L1)
  have HO := Lib.hid (dateOf_any D h _ L1)
  unfold mthI at hM
  rw [← hy, ← hm, ← hd] at HO
  generalize fstN k = F at *
  generalize lngN k = N at *
  clear h L L1 hy hm hd
  go_enter Tryd.func47, Tryd.ntmps47
  go_wp2_with fail
  refine HB.out.mono ?_
  rintro e w1 ⟨rfl, rfl⟩
  go_wp2_with fail
  refine HO.out.mono ?_
  rintro e w2 ⟨rfl, hb⟩
  have HW := Lib.hid (bel_on (below_new w _) hb)
  obtain ⟨c0, c1, c2⟩ := box3 hb
  have hlt : w.heap.size < w2.heap.size := cell_lt c0
  have d0 : ∀ o, (w2.alloc o).cell? ⟨w.heap.size, 0, none⟩ = some (.int .i64 y) := fun o => (World.cell?_alloc_past _ _ _ hlt).trans c0
  have d1 : ∀ o, (w2.alloc o).cell? ⟨w.heap.size, 1, none⟩ = some (.int .i64 m) := fun o => (World.cell?_alloc_past _ _ _ hlt).trans c1
  have d2 : ∀ o, (w2.alloc o).cell? ⟨w.heap.size, 2, none⟩ = some (.int .i64 d) := fun o => (World.cell?_alloc_past _ _ _ hlt).trans c2
  clear hb hlt
  go_wp2_with fail
  go_ret2
  exact ⟨rfl, bel_on HW.out (below_new w2 _)⟩

set_option maxHeartbeats 1000000 in
set_option maxRecDepth 100000 in
theorem dayOf_other (y m d : Int) (k : Nat) (hk : k < 2400) (hM : mthI y m = k) (D : Nat) (hD : wrap64 (wrap64 ((fstN k : Int) + d) - 1) = D) (h : D < 73049) (hn : ¬ (y = yrN D ∧ m = moN D ∧ d = daN D)) (w : World) (L : LenW w) :
    Calls Tryd.prog 47 #[.agg #[.int .i64 y, .int .i64 m, .int .i64 d]] w fun e w' => e = .returned (.tuple #[.int .i64 0, .int .i64 18]) ∧ Below w.heap.size w w' := by
  have L1 := L.keep (below_new w (.cells #[.int .i64 y, .int .i64 m, .int .i64 d] 79))
  have HB := Lib.hid (bounds_any k hk _ L1)
  have HO := Lib.hid (dateOf_any D h _ L1)
  unfold mthI at hM
  have HN : Hid (¬ ((yrN D : Int) = y ∧ (moN D : Int) = m ∧ (daN D : Int) = d)) := Lib.hid (fun c => hn ⟨c.1.symm, c.2.1.symm, c.2.2.symm⟩)
  obtain ⟨Y, hY⟩ : ∃ Y : Int, Y = yrN D := ⟨_, rfl⟩
  obtain ⟨Mo, hMo⟩ : ∃ Y : Int, Y = moN D := ⟨_, rfl⟩
  obtain ⟨Da, hDa⟩ : ∃ Y : Int, Y = daN D := ⟨_, rfl⟩
  rw [← hY, ← hMo, ← hDa] at HO HN
  generalize fstN k = F at *
  generalize lngN k = N at *
  clear h L L1 hY hMo hDa hn
  go_enter Tryd.func47, Tryd.ntmps47
  go_wp2_with fail
  refine HB.out.mono ?_
  rintro e w1 ⟨rfl, rfl⟩
  go_wp2_with fail
  refine HO.out.mono ?_
  rintro e w2 ⟨rfl, hb⟩
  have HW := Lib.hid (bel_on (below_new w _) hb)
  obtain ⟨c0, c1, c2⟩ := box3 hb
  have hlt : w.heap.size < w2.heap.size := cell_lt c0
  have d0 : ∀ o, (w2.alloc o).cell? ⟨w.heap.size, 0, none⟩ = some (.int .i64 y) := fun o => (World.cell?_alloc_past _ _ _ hlt).trans c0
  have d1 : ∀ o, (w2.alloc o).cell? ⟨w.heap.size, 1, none⟩ = some (.int .i64 m) := fun o => (World.cell?_alloc_past _ _ _ hlt).trans c1
  have d2 : ∀ o, (w2.alloc o).cell? ⟨w.heap.size, 2, none⟩ = some (.int .i64 d) := fun o => (World.cell?_alloc_past _ _ _ hlt).trans c2
  clear hb hlt
  go_wp2_with fail
  all_goals first | (exact absurd ⟨by assumption, by assumption, by assumption⟩ HN.out) | (go_ret2; exact ⟨rfl, bel_on HW.out (below_new w2 _)⟩)

theorem wrap_in {n : Int} (h0 : -9223372036854775808 ≤ n) (h1 : n ≤ 9223372036854775807) : wrap64 n = n := by unfold wrap64; omega
theorem dayOf_yes (y m d : Int) (h : IsDate y m d) (w : World) (L : LenW w) :
    Calls Tryd.prog 47 #[.agg #[.int .i64 y, .int .i64 m, .int .i64 d]] w fun e w' => e = .returned (.tuple #[.int .i64 (dayN y m d), .int .i64 0]) ∧ Below w.heap.size w w' := by
  obtain ⟨e0, e1, e2, e3⟩ := day_date h
  obtain ⟨h0, h1, h2, h3, h4, h5⟩ := h
  have hl := long_lng h0 h1 h2 h3
  have hle := fst_le (m := atN y m) (by omega)
  have hg := (fst_step _ hl.2).2
  rw [hl.1] at h5
  refine dayOf_same y m d (atN y m) hl.2 ?_ (dayN y m d) ?_ e0 e1.symm e2.symm e3.symm w L
  · unfold mthI
    rw [wrap_in (n := y - 2000) (by omega) (by omega), wrap_in (n := (y - 2000) * 12) (by omega) (by omega), wrap_in (n := (y - 2000) * 12 + m) (by omega) (by omega), wrap_in (by omega) (by omega)]
    unfold atN; omega
  · rw [wrap_in (n := (fstN (atN y m) : Int) + d) (by omega) (by omega), wrap_in (by omega) (by omega)]
    unfold dayN; omega
theorem dayOf_no (y m d : Int) (hy : I64d y) (hm : I64d m) (hd : I64d d) (h : ¬ IsDate y m d) (w : World) (L : LenW w) :
    Calls Tryd.prog 47 #[.agg #[.int .i64 y, .int .i64 m, .int .i64 d]] w fun e w' => e = .returned (.tuple #[.int .i64 0, .int .i64 18]) ∧ Below w.heap.size w w' := by
  by_cases c : mthI y m < 0 ∨ 2400 ≤ mthI y m
  · exact dayOf_far y m d hy hm hd c w
  · obtain ⟨k, hk⟩ : ∃ k : Nat, mthI y m = k := ⟨(mthI y m).toNat, by omega⟩
    by_cases c2 : wrap64 (wrap64 ((fstN k : Int) + d) - 1) < 0 ∨ 73048 < wrap64 (wrap64 ((fstN k : Int) + d) - 1)
    · exact dayOf_none y m d k (by omega) hk _ rfl c2 w L
    · obtain ⟨D, hD⟩ : ∃ D : Nat, wrap64 (wrap64 ((fstN k : Int) + d) - 1) = D := ⟨(wrap64 (wrap64 ((fstN k : Int) + d) - 1)).toNat, by omega⟩
      refine dayOf_other y m d k (by omega) hk D hD (by omega) (fun e => h ?_) w L
      rw [e.1, e.2.1, e.2.2]
      exact (date_is (by omega)).1

theorem day_yes (y m d : Int) (h : IsDate y m d) (w : World) (L : LenW w) :
    Calls Tryd.prog 21 #[.int .i64 y, .int .i64 m, .int .i64 d] w fun e w' => e = .returned (.tuple #[.int .i64 (dayN y m d), .int .i64 0]) ∧ Below w.heap.size w w' := by
  have HD := Lib.hid (dayOf_yes y m d h w L)
  generalize dayN y m d = D at *
  clear h L
  go_enter Tryd.func21, Tryd.ntmps21
  go_wp2_with fail
  refine HD.out.mono ?_
  rintro e w1 ⟨rfl, hb⟩
  have HB := Lib.hid hb
  clear hb
  go_wp2_with fail
  go_ret2
  exact ⟨rfl, HB.out⟩
theorem day_no (y m d : Int) (hy : I64d y) (hm : I64d m) (hd : I64d d) (h : ¬ IsDate y m d) (w : World) (L : LenW w) :
    Calls Tryd.prog 21 #[.int .i64 y, .int .i64 m, .int .i64 d] w fun e w' => e = .returned (.tuple #[.int .i64 0, .int .i64 18]) ∧ Below w.heap.size w w' := by
  have HD := Lib.hid (dayOf_no y m d hy hm hd h w L)
  clear h L
  go_enter Tryd.func21, Tryd.ntmps21
  go_wp2_with fail
  refine HD.out.mono ?_
  rintro e w1 ⟨rfl, hb⟩
  have HB := Lib.hid hb
  clear hb
  go_wp2_with fail
  go_ret2
  exact ⟨rfl, HB.out⟩

end Go.Proofs.YtfeaopaglhlojaaDoor

/-
  chattellaw11.AgendaNil: its walk.
-/
import Derived.Test.YtfbmapjiemfogaaAgL
import Derived.Deep.Cut
namespace Go.Proofs.Ytfbmapjiemfogaa
open Go.RowKit Go.Lib Go.Maps Go.Sort Go.Shelf
set_option linter.unusedVariables false
set_option linter.unusedSimpArgs false
attribute [local go_sem] eq_it

set_option maxRecDepth 100000 in
set_option maxHeartbeats 4000000 in
theorem nil11_walk (w : World) (k d n : Int) : Calls Try.prog 7 #[.agg #[.int .i64 k, .int .i64 d, .int .i64 n]] w fun e w' => e = .returned (.bool true) ∧ Below w.heap.size w w' := by
  have hb0 := newF w (.cells #[.int .i64 k, .int .i64 d, .int .i64 n] 36)
  have hk : ∀ i v, (#[.int .i64 k, .int .i64 d, .int .i64 n] : Array Value)[i]? = some v → (w.alloc (.cells #[.int .i64 k, .int .i64 d, .int .i64 n] 36)).cell? ⟨w.heap.size, i, none⟩ = some v := fun i v hv => (World.cell?_alloc_at _ _ _ _ rfl).trans hv
  have k0 := hk 0 (.int .i64 k) rfl
  have k1 := hk 1 (.int .i64 d) rfl
  have k2 := hk 2 (.int .i64 n) rfl
  have HD := Lib.hid (fun w' => ndoes_any w' k d n)
  have HN := Lib.hid (fun w' => nnext_any w')
  have HL := Lib.hid (fun w' => nlen_any w')
  have HAl := Lib.hid (fun w' => nall_any w')
  have HI := Lib.hid (fun w' => nitems_any w')
  have HC := Lib.hid (fun w' => ncopy_any w')
  have HAw := Lib.hid (fun w' => awake11_any w')
  have HB := Lib.hid hb0
  have HK := Lib.hid (And.intro k0 (And.intro k1 k2))
  have hq := fnil_neA
  unfold zIt at HD HN
  unfold nilE at HD
  clear hk hb0
  by_cases c : k = 1
  · subst c
    rw [if_pos rfl] at HD
    go_enter Try.func7, Try.ntmps7
    go_wp2_with fail
    generalize w.alloc (.cells #[.int .i64 1, .int .i64 d, .int .i64 n] 36) = W at *
    refine (HD.out _).mono ?_
    rintro e w1 ⟨rfl, hb1⟩
    have hb2 := onF hb1 (newF w1 (.cells #[.int .i64 0, .int .i64 0, .int .i64 0] 31))
    have HB2 := Lib.hid (onF HB.out hb2)
    have k0 := keepF hb2 HK.out.1
    have x0 : (w1.alloc (.cells #[.int .i64 0, .int .i64 0, .int .i64 0] 31)).cell? ⟨w1.heap.size, 0, none⟩ = some (.int .i64 0) := by rw [World.cell?_alloc_at _ _ _ _ rfl]; rfl
    have x1 : (w1.alloc (.cells #[.int .i64 0, .int .i64 0, .int .i64 0] 31)).cell? ⟨w1.heap.size, 1, none⟩ = some (.int .i64 0) := by rw [World.cell?_alloc_at _ _ _ _ rfl]; rfl
    have x2 : (w1.alloc (.cells #[.int .i64 0, .int .i64 0, .int .i64 0] 31)).cell? ⟨w1.heap.size, 2, none⟩ = some (.int .i64 0) := by rw [World.cell?_alloc_at _ _ _ _ rfl]; rfl
    have HX := Lib.hid (And.intro x0 (And.intro x1 x2))
    have HK2 := Lib.hid k0
    clear hb1 hb2 k0 k1 k2 x0 x1 x2 HD
    go_wp2_with fail
    generalize w1.alloc (.cells #[.int .i64 0, .int .i64 0, .int .i64 0] 31) = W1 at *
    refine (HN.out _).mono ?_
    rintro e w2 ⟨rfl, hb3⟩
    have hb4 := onF hb3 (newF w2 (.cells #[.int .i64 0, .int .i64 0, .int .i64 0] 31))
    have HB4 := Lib.hid (onF HB2.out hb4)
    have k0 := keepF hb4 HK2.out
    have x0 := keepF hb4 HX.out.1
    have x1 := keepF hb4 HX.out.2.1
    have x2 := keepF hb4 HX.out.2.2
    have y0 : (w2.alloc (.cells #[.int .i64 0, .int .i64 0, .int .i64 0] 31)).cell? ⟨w2.heap.size, 0, none⟩ = some (.int .i64 0) := by rw [World.cell?_alloc_at _ _ _ _ rfl]; rfl
    have y1 : (w2.alloc (.cells #[.int .i64 0, .int .i64 0, .int .i64 0] 31)).cell? ⟨w2.heap.size, 1, none⟩ = some (.int .i64 0) := by rw [World.cell?_alloc_at _ _ _ _ rfl]; rfl
    have y2 : (w2.alloc (.cells #[.int .i64 0, .int .i64 0, .int .i64 0] 31)).cell? ⟨w2.heap.size, 2, none⟩ = some (.int .i64 0) := by rw [World.cell?_alloc_at _ _ _ _ rfl]; rfl
    have HY := Lib.hid (And.intro y0 (And.intro y1 y2))
    have HX4 := Lib.hid (And.intro x0 (And.intro x1 x2))
    have HK4 := Lib.hid k0
    clear hb3 hb4 HN x0 x1 x2 y0 y1 y2 k0
    have x0 := HX4.out.1
    have x1 := HX4.out.2.1
    have x2 := HX4.out.2.2
    have k0 := HK4.out
    go_wp2_with fail
    clear HX4 HY HK4
    refine (HL.out _).mono ?_
    rintro e w3 ⟨rfl, rfl⟩
    go_wp2_with fail
    refine (HAl.out _).mono ?_
    rintro e w4 ⟨rfl, rfl⟩
    go_wp2_with fail
    refine (HI.out _).mono ?_
    rintro e w5 ⟨rfl, hb5⟩
    have HB5 := Lib.hid (onF HB4.out hb5)
    clear hb5 x0 x1 x2 k0
    go_wp2_with fail
    refine (HC.out _).mono ?_
    rintro e w6 ⟨rfl, rfl⟩
    go_wp2_with fail
    refine (HAw.out _).mono ?_
    rintro e w7 ⟨rfl, hb7⟩
    have HB7 := Lib.hid (onF HB5.out hb7)
    clear hb7
    go_wp2_with fail
    go_ret
    exact ⟨rfl, HB7.out⟩
  · rw [if_neg c] at HD
    go_enter Try.func7, Try.ntmps7
    go_wp2_with fail
    generalize w.alloc (.cells #[.int .i64 k, .int .i64 d, .int .i64 n] 36) = W at *
    refine (HD.out _).mono ?_
    rintro e w1 ⟨rfl, hb1⟩
    have hb2 := onF hb1 (newF w1 (.cells #[.int .i64 0, .int .i64 0, .int .i64 0] 31))
    have HB2 := Lib.hid (onF HB.out hb2)
    have k0 := keepF hb2 HK.out.1
    have x0 : (w1.alloc (.cells #[.int .i64 0, .int .i64 0, .int .i64 0] 31)).cell? ⟨w1.heap.size, 0, none⟩ = some (.int .i64 0) := by rw [World.cell?_alloc_at _ _ _ _ rfl]; rfl
    have x1 : (w1.alloc (.cells #[.int .i64 0, .int .i64 0, .int .i64 0] 31)).cell? ⟨w1.heap.size, 1, none⟩ = some (.int .i64 0) := by rw [World.cell?_alloc_at _ _ _ _ rfl]; rfl
    have x2 : (w1.alloc (.cells #[.int .i64 0, .int .i64 0, .int .i64 0] 31)).cell? ⟨w1.heap.size, 2, none⟩ = some (.int .i64 0) := by rw [World.cell?_alloc_at _ _ _ _ rfl]; rfl
    have HX := Lib.hid (And.intro x0 (And.intro x1 x2))
    have HK2 := Lib.hid k0
    clear hb1 hb2 k0 k1 k2 x0 x1 x2 HD
    go_wp2_with fail
    generalize w1.alloc (.cells #[.int .i64 0, .int .i64 0, .int .i64 0] 31) = W1 at *
    refine (HN.out _).mono ?_
    rintro e w2 ⟨rfl, hb3⟩
    have hb4 := onF hb3 (newF w2 (.cells #[.int .i64 0, .int .i64 0, .int .i64 0] 31))
    have HB4 := Lib.hid (onF HB2.out hb4)
    have k0 := keepF hb4 HK2.out
    have x0 := keepF hb4 HX.out.1
    have x1 := keepF hb4 HX.out.2.1
    have x2 := keepF hb4 HX.out.2.2
    have y0 : (w2.alloc (.cells #[.int .i64 0, .int .i64 0, .int .i64 0] 31)).cell? ⟨w2.heap.size, 0, none⟩ = some (.int .i64 0) := by rw [World.cell?_alloc_at _ _ _ _ rfl]; rfl
    have y1 : (w2.alloc (.cells #[.int .i64 0, .int .i64 0, .int .i64 0] 31)).cell? ⟨w2.heap.size, 1, none⟩ = some (.int .i64 0) := by rw [World.cell?_alloc_at _ _ _ _ rfl]; rfl
    have y2 : (w2.alloc (.cells #[.int .i64 0, .int .i64 0, .int .i64 0] 31)).cell? ⟨w2.heap.size, 2, none⟩ = some (.int .i64 0) := by rw [World.cell?_alloc_at _ _ _ _ rfl]; rfl
    have HY := Lib.hid (And.intro y0 (And.intro y1 y2))
    have HX4 := Lib.hid (And.intro x0 (And.intro x1 x2))
    have HK4 := Lib.hid k0
    clear hb3 hb4 HN x0 x1 x2 y0 y1 y2 k0
    have x0 := HX4.out.1
    have x1 := HX4.out.2.1
    have x2 := HX4.out.2.2
    have k0 := HK4.out
    go_wp2_with fail
    clear HX4 HY HK4
    refine (HL.out _).mono ?_
    rintro e w3 ⟨rfl, rfl⟩
    go_wp2_with fail
    refine (HAl.out _).mono ?_
    rintro e w4 ⟨rfl, rfl⟩
    go_wp2_with fail
    refine (HI.out _).mono ?_
    rintro e w5 ⟨rfl, hb5⟩
    have HB5 := Lib.hid (onF HB4.out hb5)
    clear hb5 x0 x1 x2 k0
    go_wp2_with fail
    refine (HC.out _).mono ?_
    rintro e w6 ⟨rfl, rfl⟩
    go_wp2_with fail
    refine (HAw.out _).mono ?_
    rintro e w7 ⟨rfl, hb7⟩
    have HB7 := Lib.hid (onF HB5.out hb7)
    clear hb7
    go_wp2_with fail
    go_ret
    exact ⟨rfl, HB7.out⟩

end Go.Proofs.Ytfbmapjiemfogaa

/-
  A nil agenda: what its methods answer; the chapter's example.
-/
import Derived.Test.YtkfcaafjnolhgaaAgI
import Derived.RangeFuncMany
import Derived.RangeFuncLeaves
import Derived.RangeFuncBox
import Derived.RangeFuncNested
import Derived.RangeFuncBound
import Derived.RangeFuncCalls
import Derived.OwnWalkIn
import Derived.TacticsInMore
import Derived.RegionIn
import Derived.LoopNIn
import Derived.LoopIn
namespace Go.Proofs.Ytkfcaafjnolhgaa
open Go.RowKit Go.Lib Go.Maps Go.Sort
set_option linter.unusedVariables false
set_option linter.unusedSimpArgs false

set_option maxRecDepth 100000 in
theorem eq_it (a b c a' b' c' : Int) (w : World) : (Op.equalIn 10000 31 (.agg #[.int .i64 a, .int .i64 b, .int .i64 c]) (.agg #[.int .i64 a', .int .i64 b', .int .i64 c'])).run Try.prog w = .ok (a == a' && (b == b' && c == c')) w := by
  have hs : ∀ (x y : Int) (w : World), (Op.equalIn 9999 3 (.int .i64 x) (.int .i64 y)).run Try.prog w = .ok (x == y) w := fun x y w => run_equalIn_int (w := w) 9998 3 .i64 .i64 x y Try.underlying3
  have hp : ∀ (xs : Array Value) (i : Nat) (v : Value) (w : World), xs[i]? = some v → (part 3 xs i).run Try.prog w = .ok v w := fun xs i v w h => by
    simp only [part]
    go_simp
  have p0 : ∀ (x y z : Int) (w : World), (part 3 #[.int .i64 x, .int .i64 y, .int .i64 z] 0).run Try.prog w = .ok (.int .i64 x) w := fun x y z w => hp _ _ _ w rfl
  have p1 : ∀ (x y z : Int) (w : World), (part 3 #[.int .i64 x, .int .i64 y, .int .i64 z] 1).run Try.prog w = .ok (.int .i64 y) w := fun x y z w => hp _ _ _ w rfl
  have p2 : ∀ (x y z : Int) (w : World), (part 3 #[.int .i64 x, .int .i64 y, .int .i64 z] 2).run Try.prog w = .ok (.int .i64 z) w := fun x y z w => hp _ _ _ w rfl
  rw [show (10000 : Nat) = 9999 + 1 from rfl, Op.equalIn]
  simp [Sem.run_bind, run_underlying Try.underlying31, Result.andThen]
  simp only [p0, p1, p2, hs]
  by_cases h1 : a = a' <;> by_cases h2 : b = b' <;> by_cases h3 : c = c' <;> simp [h1, h2, h3, Sem.run_bind, Result.andThen, p0, p1, p2, hs]
set_option maxRecDepth 100000 in
theorem nput_any (w : World) (d t : Int) : Calls Try.prog 25 #[.pointer none, .int .i64 d, .int .i64 t] w fun e w' => e = .returned (.tuple #[.int .i64 0, .int .i64 2]) ∧ w' = w := by
  go_enter Try.func25, Try.ntmps25
  go_wp2_with fail
  go_ret2
  exact ⟨rfl, rfl⟩
set_option maxRecDepth 100000 in
theorem nlen_any (w : World) : Calls Try.prog 16 #[.pointer none] w fun e w' => e = .returned (.int .i64 0) ∧ w' = w := by
  go_enter Try.func16, Try.ntmps16
  go_wp2_with fail
  go_ret
  exact ⟨rfl, rfl⟩
set_option maxRecDepth 100000 in
theorem nnext_any (w : World) : Calls Try.prog 19 #[.pointer none] w fun e w' => e = .returned (.tuple #[zIt, .bool false]) ∧ Below w.heap.size w w' := by
  have HL := Lib.hid (fun w' => nlen_any w')
  unfold zIt
  go_enter Try.func19, Try.ntmps19
  go_wp2_with fail
  refine (HL.out _).mono ?_
  rintro e w1 ⟨rfl, rfl⟩
  go_wp2_with fail
  exact bodyPost_ret (v := .tuple #[.agg #[.int .i64 0, .int .i64 0, .int .i64 0], .bool false]) (by simp [results, Try.results19, go_sem]) rfl ⟨rfl, newF _ _⟩
set_option maxRecDepth 100000 in
theorem ntake_any (w : World) (b : Int) : Calls Try.prog 20 #[.pointer none, .int .i64 b] w fun e w' => e = .returned (.tuple #[zIt, .bool false]) ∧ Below w.heap.size w w' := by
  have HN := Lib.hid (fun w' => nnext_any w')
  have hb := newF w (.cells #[.int .i64 0, .int .i64 0, .int .i64 0] 31)
  have hr0 : ∀ k, k < 3 → (w.alloc (.cells #[.int .i64 0, .int .i64 0, .int .i64 0] 31)).cell? ⟨w.heap.size, k, none⟩ = some (.int .i64 0) := fun k hk => by
    rw [World.cell?_alloc_at _ _ _ _ rfl]
    rcases (show k = 0 ∨ k = 1 ∨ k = 2 by omega) with rfl | rfl | rfl <;> rfl
  have hf0 : ∀ k, (w.alloc (.cells #[.int .i64 0, .int .i64 0, .int .i64 0] 31)).frozen? ⟨w.heap.size, k, none⟩ = false := fun k => World.frozen?_alloc_at _ _ _ _ rfl
  have HZ := Lib.hid (And.intro hr0 hf0)
  have HB := Lib.hid hb
  unfold zIt at *
  clear hb hr0 hf0
  go_enter Try.func20, Try.ntmps20
  go_wp2_with fail
  refine (HN.out _).mono ?_
  rintro e w2 ⟨rfl, hb2⟩
  have hb3 := onF hb2 (newF w2 (.cells #[.int .i64 0, .int .i64 0, .int .i64 0] 31))
  have z0 := keepF hb3 (HZ.out.1 0 (by decide))
  have z1 := keepF hb3 (HZ.out.1 1 (by decide))
  have z2 := keepF hb3 (HZ.out.1 2 (by decide))
  have y : ∀ k, (w2.alloc (.cells #[.int .i64 0, .int .i64 0, .int .i64 0] 31)).frozen? ⟨w.heap.size, k, none⟩ = false := fun k => (hb3.frozen (p := ⟨w.heap.size, k, none⟩) (by simp)).trans (HZ.out.2 k)
  have y0 := y 0
  have y1 := y 1
  have y2 := y 2
  have HB2 := Lib.hid (onF HB.out hb3)
  clear hb2 hb3 y HN
  go_wp2_with fail
  exact bodyPost_ret (v := .tuple #[.agg #[.int .i64 0, .int .i64 0, .int .i64 0], .bool false]) (by simp [results, Try.results20, go_sem, z0, z1, z2]) rfl ⟨rfl, Below.setCell (Below.setCell (Below.setCell HB2.out (Nat.le_refl _) _) (Nat.le_refl _) _) (Nat.le_refl _) _⟩
set_option maxRecDepth 100000 in
theorem ndrop_any (w : World) (no : Int) : Calls Try.prog 26 #[.pointer none, .int .i64 no] w fun e w' => e = .returned (.tuple #[zIt, .int .i64 2]) ∧ Below w.heap.size w w' := by
  unfold zIt
  go_enter Try.func26, Try.ntmps26
  go_wp2_with fail
  exact bodyPost_ret (v := .tuple #[.agg #[.int .i64 0, .int .i64 0, .int .i64 0], .int .i64 2]) (by simp [results, Try.results26, go_sem]) rfl ⟨rfl, newF _ _⟩
set_option maxRecDepth 100000 in
theorem nmove_any (w : World) (no d : Int) : Calls Try.prog 23 #[.pointer none, .int .i64 no, .int .i64 d] w fun e w' => e = .returned (.int .i64 2) ∧ w' = w := by
  go_enter Try.func23, Try.ntmps23
  go_wp2_with fail
  go_ret
  exact ⟨rfl, rfl⟩
set_option maxRecDepth 100000 in
theorem ncopy_any (w : World) : Calls Try.prog 22 #[.pointer none] w fun e w' => e = .returned (.pointer none) ∧ w' = w := by
  go_enter Try.func22, Try.ntmps22
  go_wp2_with fail
  go_ret
  exact ⟨rfl, rfl⟩
set_option maxRecDepth 100000 in
theorem nall_any (w : World) : Calls Try.prog 21 #[.pointer none] w fun e w' => e = .returned (.func (.func 31) #[] #[]) ∧ w' = w := by
  go_enter Try.func21, Try.ntmps21
  go_wp2_with fail
  go_ret
  exact ⟨rfl, rfl⟩

end Go.Proofs.Ytkfcaafjnolhgaa

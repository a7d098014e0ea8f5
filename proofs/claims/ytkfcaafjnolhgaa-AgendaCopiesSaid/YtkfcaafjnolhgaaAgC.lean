/-
  cmp.Compare, cmp.Or, and an item's compare: what they answer.
-/
import Derived.Test.YtkfcaafjnolhgaaAgA
import Derived.Test.YtkfcaafjnolhgaaAgM
import Derived.Sort.Grow
import Derived.Deep.RegionWith
import Derived.Deep.RegionHeld3
import Derived.Lib.Hide
namespace Go.Proofs.Ytkfcaafjnolhgaa
open Go.RowKit Go.Lib Go.Maps Go.Sort
set_option linter.unusedVariables false
set_option linter.unusedSimpArgs false
set_option linter.unusedSectionVars false

def cmpI (a b : Int) : Int := if a < b then -1 else if b < a then 1 else 0
def or2 (a b : Int) : Int := if a = 0 then b else a
set_option maxRecDepth 100000 in
theorem isnan_any (w : World) (a : Int) : Calls Try.prog 56 #[.int .i64 a] w fun e w' => e = .returned (.bool false) ∧ w' = w := by
  go_enter Try.func56, Try.ntmps56
  go_wp2_with fail
  go_ret
  exact ⟨by simp, rfl⟩
set_option maxRecDepth 100000 in
theorem compare_int (w : World) (a b : Int) : Calls Try.prog 46 #[.int .i64 a, .int .i64 b] w fun e w' => e = .returned (.int .i64 (cmpI a b)) ∧ w' = w := by
  have HN := Lib.hid (fun (w' : World) (x : Int) => isnan_any w' x)
  unfold cmpI
  by_cases h1 : a < b
  · rw [if_pos h1]
    go_enter Try.func46, Try.ntmps46
    go_wp2_with fail
    refine (HN.out _ _).mono ?_
    rintro e w1 ⟨rfl, rfl⟩
    go_wp2_with fail
    refine (HN.out _ _).mono ?_
    rintro e w1 ⟨rfl, rfl⟩
    go_wp2_with fail
    go_ret
    exact ⟨rfl, rfl⟩
  · rw [if_neg h1]
    by_cases h2 : b < a
    · rw [if_pos h2]
      go_enter Try.func46, Try.ntmps46
      go_wp2_with fail
      refine (HN.out _ _).mono ?_
      rintro e w1 ⟨rfl, rfl⟩
      go_wp2_with fail
      refine (HN.out _ _).mono ?_
      rintro e w1 ⟨rfl, rfl⟩
      go_wp2_with fail
      go_ret
      exact ⟨rfl, rfl⟩
    · rw [if_neg h2]
      go_enter Try.func46, Try.ntmps46
      go_wp2_with fail
      refine (HN.out _ _).mono ?_
      rintro e w1 ⟨rfl, rfl⟩
      go_wp2_with fail
      refine (HN.out _ _).mono ?_
      rintro e w1 ⟨rfl, rfl⟩
      go_wp2_with fail
      go_ret
      exact ⟨rfl, rfl⟩
set_option maxRecDepth 100000 in
theorem or_int (w : World) (p : Nat) (a b : Int) (h0 : w.cell? ⟨p, 0, none⟩ = some (.int .i64 a)) (h1 : w.cell? ⟨p, 1, none⟩ = some (.int .i64 b)) : Calls Try.prog 45 #[.slice (some ⟨p, 0, none⟩) 2 2] w fun e w' => e = .returned (.int .i64 (or2 a b)) ∧ w' = w := by
  unfold or2
  by_cases h : a = 0
  · rw [if_pos h]
    subst h
    by_cases h' : b = 0
    · subst h'
      go_enter Try.func45, Try.ntmps45
      go_wp2_with fail
      refine wp_loop_rounds 3 ?_
      rw [rounds_succ]
      go_wp2_with fail
      rw [rounds_succ]
      go_wp2_with fail
      rw [rounds_succ]
      go_wp2_with fail
      go_ret
      exact ⟨rfl, rfl⟩
    · have h2 : (b == 0) = false := beq_false_of_ne h'
      go_enter Try.func45, Try.ntmps45
      go_wp2_with fail
      refine wp_loop_rounds 3 ?_
      rw [rounds_succ]
      go_wp2_with fail
      rw [rounds_succ]
      go_wp2_with fail
      go_ret
      exact ⟨rfl, rfl⟩
  · rw [if_neg h]
    have h2 : (a == 0) = false := beq_false_of_ne h
    go_enter Try.func45, Try.ntmps45
    go_wp2_with fail
    refine wp_loop_rounds 3 ?_
    rw [rounds_succ]
    go_wp2_with fail
    go_ret
    exact ⟨rfl, rfl⟩

theorem or_new (W : World) (p : Nat) (a b : Int) (hp : p = W.heap.size) : Calls Try.prog 45 #[.slice (some ⟨p, 0, none⟩) 2 2] (W.alloc (.cells #[.int .i64 a, .int .i64 b] 3)).drew fun e w' => e = .returned (.int .i64 (or2 a b)) ∧ w' = (W.alloc (.cells #[.int .i64 a, .int .i64 b] 3)).drew := by
  subst hp
  refine or_int _ _ _ _ ?_ ?_
  · show (W.alloc (.cells #[.int .i64 a, .int .i64 b] 3)).cell? _ = _
    rw [World.cell?_alloc_at _ _ _ _ rfl]; rfl
  · show (W.alloc (.cells #[.int .i64 a, .int .i64 b] 3)).cell? _ = _
    rw [World.cell?_alloc_at _ _ _ _ rfl]; rfl
theorem or_new2 (W : World) (p : Nat) (a b : Int) (hp : p = W.heap.size) : Calls Try.prog 45 #[.slice (some ⟨p, 0, none⟩) 2 2] (W.drew.alloc (.cells #[.int .i64 a, .int .i64 b] 3)) fun e w' => e = .returned (.int .i64 (or2 a b)) ∧ w' = W.drew.alloc (.cells #[.int .i64 a, .int .i64 b] 3) := by
  subst hp
  refine or_int _ _ _ _ ?_ ?_
  · exact (World.cell?_alloc_at (w := W.drew) _ _ W.heap.size 0 rfl).trans rfl
  · exact (World.cell?_alloc_at (w := W.drew) _ _ W.heap.size 1 rfl).trans rfl
/-- Two boxes, one behind the other. -/
theorem two_boxes (w : World) (cs ds : Array Value) (t u : TypeId) :
    ((w.alloc (.cells cs t)).alloc (.cells ds u)).cell? ⟨w.heap.size, 0, none⟩ = cs[0]? ∧ ((w.alloc (.cells cs t)).alloc (.cells ds u)).cell? ⟨w.heap.size, 1, none⟩ = cs[1]? ∧
    ((w.alloc (.cells cs t)).alloc (.cells ds u)).cell? ⟨w.heap.size + 1, 0, none⟩ = ds[0]? ∧ ((w.alloc (.cells cs t)).alloc (.cells ds u)).cell? ⟨w.heap.size + 1, 1, none⟩ = ds[1]? := by
  refine ⟨?_, ?_, ?_, ?_⟩
  · exact (World.cell?_alloc_past _ _ _ (by simp)).trans (World.cell?_alloc_at _ _ _ _ rfl)
  · exact (World.cell?_alloc_past _ _ _ (by simp)).trans (World.cell?_alloc_at _ _ _ _ rfl)
  · rw [World.cell?_alloc_at _ _ _ _ (by simp)]
  · rw [World.cell?_alloc_at _ _ _ _ (by simp)]
set_option maxRecDepth 100000 in
set_option maxHeartbeats 2000000 in
theorem itcmp_gr (w : World) (a b c x y z : Int) : Calls Try.prog 35 #[.agg #[.int .i64 a, .int .i64 b, .int .i64 c], .agg #[.int .i64 x, .int .i64 y, .int .i64 z]] w fun e w' => e = .returned (.int .i64 (or2 (cmpI a x) (cmpI b y))) ∧ ∃ q os', w' = grow (w.drewN q) os' := by
  have HC := fun (w' : World) (x y : Int) => compare_int w' x y
  have hbw := onF (newF w (.cells #[.int .i64 a, .int .i64 b, .int .i64 c] 31)) (newF (w.alloc (.cells #[.int .i64 a, .int .i64 b, .int .i64 c] 31)) (.cells #[.int .i64 x, .int .i64 y, .int .i64 z] 31))
  obtain ⟨a0, a1, x0, x1⟩ := two_boxes w #[.int .i64 a, .int .i64 b, .int .i64 c] #[.int .i64 x, .int .i64 y, .int .i64 z] 31 31
  have hg : ∃ os, (w.alloc (.cells #[.int .i64 a, .int .i64 b, .int .i64 c] 31)).alloc (.cells #[.int .i64 x, .int .i64 y, .int .i64 z] 31) = grow w os := ⟨_, by rw [alloc_eq_grow, alloc_eq_grow, grow_grow]⟩
  have hsz : ((w.alloc (.cells #[.int .i64 a, .int .i64 b, .int .i64 c] 31)).alloc (.cells #[.int .i64 x, .int .i64 y, .int .i64 z] 31)).heap.size = w.heap.size + 1 + 1 := by simp
  change _ = some (Value.int .i64 a) at a0
  change _ = some (Value.int .i64 b) at a1
  change _ = some (Value.int .i64 x) at x0
  change _ = some (Value.int .i64 y) at x1
  have HG := Lib.hid hg
  have HZ := Lib.hid hsz
  clear hbw hg hsz
  go_enter Try.func35, Try.ntmps35
  go_wp2_with fail
  generalize (w.alloc (.cells #[.int .i64 a, .int .i64 b, .int .i64 c] 31)).alloc (.cells #[.int .i64 x, .int .i64 y, .int .i64 z] 31) = W2 at *
  go_region_held3 (fun w' => w'.cell? ⟨w.heap.size, 0, none⟩ = some (.int .i64 a) ∧ w'.cell? ⟨w.heap.size, 1, none⟩ = some (.int .i64 b) ∧ w'.cell? ⟨w.heap.size + 1, 0, none⟩ = some (.int .i64 x) ∧ w'.cell? ⟨w.heap.size + 1, 1, none⟩ = some (.int .i64 y)) (first | (with_reducible exact ⟨a0, a1, x0, x1⟩) | go_keep)
    (first
    | (go_at_call 46; (with_reducible refine (HC _ _ _).mono ?_); rintro e w' ⟨rfl, rfl⟩)
    | (go_at_call 45; refine (or_new _ _ _ _ rfl).mono ?_; rintro e w' ⟨rfl, rfl⟩)
    | (go_at_call 45; refine (or_new2 _ _ _ _ rfl).mono ?_; rintro e w' ⟨rfl, rfl⟩))
  go_wp2_with fail
  go_ret
  obtain ⟨os, hos⟩ := HG.out
  subst hos
  exact ⟨rfl, 1, _, by rw [alloc_eq_grow, grow_grow]; rfl⟩

/-- How two items stand. -/
def cmpIt (x y : It) : Int := or2 (cmpI x.d y.d) (cmpI x.no y.no)
theorem cmpIt_lt (x y : It) : cmpIt x y < 0 ↔ bfI x y := by
  unfold cmpIt or2 cmpI bfI
  (repeat' split) <;> omega
theorem itcmp_any (w : World) (x y : It) : Calls Try.prog 35 #[.agg #[.int .i64 x.d, .int .i64 x.no, .int .i64 x.tag], .agg #[.int .i64 y.d, .int .i64 y.no, .int .i64 y.tag]] w fun e w' => e = .returned (.int .i64 (cmpIt x y)) ∧ ∃ q os', w' = grow (w.drewN q) os' := itcmp_gr w x.d x.no x.tag y.d y.no y.tag

end Go.Proofs.Ytkfcaafjnolhgaa

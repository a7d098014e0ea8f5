/-
  Package facts: the order of what is told: cmp.Compare, cmp.Or, inOrder's own.
-/
import Derived.Test.YtjafbfepdmgjnaaGreatDoorFcE
import Derived.Shelf.SlSortCmp.NoneTotal
import Derived.Sort.Grow
import Derived.Deep.RegionWith
import Derived.Deep.RegionHeld3
namespace Go.Proofs.YtjafbfepdmgjnaaGreatDoor
open Go.RowKit Go.Lib Go.Maps Go.Sort Go.Shelf
set_option linter.unusedVariables false
set_option linter.unusedSimpArgs false

def cmpI (a b : Int) : Int := if a < b then -1 else if b < a then 1 else 0
def or2 (a b : Int) : Int := if a = 0 then b else a
/-- How two entries stand: by their keys, then by their days. -/
def cmpE (x y : Ent) : Int := or2 (cmpI x.1 y.1) (cmpI x.2.1 y.2.1)
set_option maxRecDepth 100000 in
theorem isnan_any (w : World) (a : Int) : Calls Tryz.prog 114 #[.int .i64 a] w fun e w' => e = .returned (.bool false) ∧ w' = w := by
  go_enter Tryz.func114, Tryz.ntmps114
  go_wp2_with fail
  go_ret
  exact ⟨by simp, rfl⟩
set_option maxRecDepth 100000 in
theorem compare_int (w : World) (a b : Int) : Calls Tryz.prog 69 #[.int .i64 a, .int .i64 b] w fun e w' => e = .returned (.int .i64 (cmpI a b)) ∧ w' = w := by
  have HN := Lib.hid (fun (w' : World) (x : Int) => isnan_any w' x)
  unfold cmpI
  by_cases h1 : a < b
  · rw [if_pos h1]
    go_enter Tryz.func69, Tryz.ntmps69
    go_wp2_with fail
    refine (HN.out _ _).mono ?_
    rintro e w1 ⟨rfl, rfl⟩
    go_wp2_with fail
    refine (HN.out _ _).mono ?_
    rintro e w1 ⟨rfl, rfl⟩
    go_wp2_with fail
    go_ret
    exact ⟨rfl, rfl⟩
  · rw [if_neg h1]
    by_cases h2 : b < a
    · rw [if_pos h2]
      go_enter Tryz.func69, Tryz.ntmps69
      go_wp2_with fail
      refine (HN.out _ _).mono ?_
      rintro e w1 ⟨rfl, rfl⟩
      go_wp2_with fail
      refine (HN.out _ _).mono ?_
      rintro e w1 ⟨rfl, rfl⟩
      go_wp2_with fail
      go_ret
      exact ⟨rfl, rfl⟩
    · rw [if_neg h2]
      go_enter Tryz.func69, Tryz.ntmps69
      go_wp2_with fail
      refine (HN.out _ _).mono ?_
      rintro e w1 ⟨rfl, rfl⟩
      go_wp2_with fail
      refine (HN.out _ _).mono ?_
      rintro e w1 ⟨rfl, rfl⟩
      go_wp2_with fail
      go_ret
      exact ⟨rfl, rfl⟩
set_option maxRecDepth 100000 in
theorem or_int (w : World) (p : Nat) (a b : Int) (h0 : w.cell? ⟨p, 0, none⟩ = some (.int .i64 a)) (h1 : w.cell? ⟨p, 1, none⟩ = some (.int .i64 b)) : Calls Tryz.prog 68 #[.slice (some ⟨p, 0, none⟩) 2 2] w fun e w' => e = .returned (.int .i64 (or2 a b)) ∧ w' = w := by
  unfold or2
  by_cases h : a = 0
  · rw [if_pos h]
    subst h
    by_cases h' : b = 0
    · subst h'
      go_enter Tryz.func68, Tryz.ntmps68
      go_wp2_with fail
      refine wp_loop_rounds 3 ?_
      rw [rounds_succ]
      go_wp2_with fail
      rw [rounds_succ]
      go_wp2_with fail
      rw [rounds_succ]
      go_wp2_with fail
      go_ret
      exact ⟨rfl, rfl⟩
    · have h2 : (b == 0) = false := beq_false_of_ne h'
      go_enter Tryz.func68, Tryz.ntmps68
      go_wp2_with fail
      refine wp_loop_rounds 3 ?_
      rw [rounds_succ]
      go_wp2_with fail
      rw [rounds_succ]
      go_wp2_with fail
      go_ret
      exact ⟨rfl, rfl⟩
  · rw [if_neg h]
    have h2 : (a == 0) = false := beq_false_of_ne h
    go_enter Tryz.func68, Tryz.ntmps68
    go_wp2_with fail
    refine wp_loop_rounds 3 ?_
    rw [rounds_succ]
    go_wp2_with fail
    go_ret
    exact ⟨rfl, rfl⟩

theorem or_new (W : World) (p : Nat) (a b : Int) (hp : p = W.heap.size) : Calls Tryz.prog 68 #[.slice (some ⟨p, 0, none⟩) 2 2] (W.alloc (.cells #[.int .i64 a, .int .i64 b] 3)).drew fun e w' => e = .returned (.int .i64 (or2 a b)) ∧ w' = (W.alloc (.cells #[.int .i64 a, .int .i64 b] 3)).drew := by
  subst hp
  refine or_int _ _ _ _ ?_ ?_
  · show (W.alloc (.cells #[.int .i64 a, .int .i64 b] 3)).cell? _ = _
    rw [World.cell?_alloc_at _ _ _ _ rfl]; rfl
  · show (W.alloc (.cells #[.int .i64 a, .int .i64 b] 3)).cell? _ = _
    rw [World.cell?_alloc_at _ _ _ _ rfl]; rfl
theorem or_new2 (W : World) (p : Nat) (a b : Int) (hp : p = W.heap.size) : Calls Tryz.prog 68 #[.slice (some ⟨p, 0, none⟩) 2 2] (W.drew.alloc (.cells #[.int .i64 a, .int .i64 b] 3)) fun e w' => e = .returned (.int .i64 (or2 a b)) ∧ w' = W.drew.alloc (.cells #[.int .i64 a, .int .i64 b] 3) := by
  subst hp
  refine or_int _ _ _ _ ?_ ?_
  · exact (World.cell?_alloc_at (w := W.drew) _ _ W.heap.size 0 rfl).trans rfl
  · exact (World.cell?_alloc_at (w := W.drew) _ _ W.heap.size 1 rfl).trans rfl
/-- Two boxes, one behind the other. -/
theorem two_boxes (w : World) (cs ds : Array Value) (t u : TypeId) :
    ((w.alloc (.cells cs t)).alloc (.cells ds u)).cell? ⟨w.heap.size, 0, none⟩ = cs[0]? ∧ ((w.alloc (.cells cs t)).alloc (.cells ds u)).cell? ⟨w.heap.size, 1, none⟩ = cs[1]? ∧
    ((w.alloc (.cells cs t)).alloc (.cells ds u)).cell? ⟨w.heap.size + 1, 0, none⟩ = ds[0]? ∧ ((w.alloc (.cells cs t)).alloc (.cells ds u)).cell? ⟨w.heap.size + 1, 1, none⟩ = ds[1]? := by
  refine ⟨?_, ?_, ?_, ?_⟩
  · exact (World.cell?_alloc_past _ _ _ (by simp)).trans (World.cell?_alloc_at _ _ _ _ rfl)
  · exact (World.cell?_alloc_past _ _ _ (by simp)).trans (World.cell?_alloc_at _ _ _ _ rfl)
  · rw [World.cell?_alloc_at _ _ _ _ (by simp)]
  · rw [World.cell?_alloc_at _ _ _ _ (by simp)]
end Go.Proofs.YtjafbfepdmgjnaaGreatDoor

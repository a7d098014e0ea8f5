/-
  Package denote: the orders of flows and of waits.
-/
import Derived.Test.YtgeneoamngfomaaGreatDoorEA
import Derived.Test.YtgeneoamngfomaaGreatDoorFcQ
import Derived.Test.YtgeneoamngfomaaGreatDoorEM
import Derived.Test.YtgeneoamngfomaaGreatDoorSrt
import Derived.Shelf.RegionOpenPlain
import Derived.Lib.SlicesCompact
import Derived.Lib.SliceRun
import Derived.Laws.StructEq
import Derived.Laws.IdiomCopy
import Derived.Laws.Rows
import Derived.Deep.LoopGhost
namespace Go.Proofs.YtgeneoamngfomaaGreatDoor
open Go.RowKit Go.Lib Go.Maps Go.Sort Go.Shelf
set_option linter.unusedVariables false
set_option linter.unusedSimpArgs false

def or3 (a b c : Int) : Int := or2 a (or2 b c)
set_option maxRecDepth 100000 in
theorem or_int3 (w : World) (p : Nat) (a b c : Int) (h0 : w.cell? ⟨p, 0, none⟩ = some (.int .i64 a)) (h1 : w.cell? ⟨p, 1, none⟩ = some (.int .i64 b)) (h2 : w.cell? ⟨p, 2, none⟩ = some (.int .i64 c)) : Calls Tryz.prog 54 #[.slice (some ⟨p, 0, none⟩) 3 3] w fun e w' => e = .returned (.int .i64 (or3 a b c)) ∧ w' = w := by
  unfold or3 or2
  by_cases h : a = 0
  · rw [if_pos h]
    subst h
    by_cases h' : b = 0
    · rw [if_pos h']
      subst h'
      by_cases h'' : c = 0
      · subst h''
        go_enter Tryz.func54, Tryz.ntmps54
        go_wp2_with fail
        refine wp_loop_rounds 4 ?_
        rw [rounds_succ]
        go_wp2_with fail
        rw [rounds_succ]
        go_wp2_with fail
        rw [rounds_succ]
        go_wp2_with fail
        rw [rounds_succ]
        go_wp2_with fail
        go_ret
        exact ⟨rfl, rfl⟩
      · have h2 : (c == 0) = false := beq_false_of_ne h''
        go_enter Tryz.func54, Tryz.ntmps54
        go_wp2_with fail
        refine wp_loop_rounds 4 ?_
        rw [rounds_succ]
        go_wp2_with fail
        rw [rounds_succ]
        go_wp2_with fail
        rw [rounds_succ]
        go_wp2_with fail
        go_ret
        exact ⟨rfl, rfl⟩
    · rw [if_neg h']
      have h2 : (b == 0) = false := beq_false_of_ne h'
      go_enter Tryz.func54, Tryz.ntmps54
      go_wp2_with fail
      refine wp_loop_rounds 4 ?_
      rw [rounds_succ]
      go_wp2_with fail
      rw [rounds_succ]
      go_wp2_with fail
      go_ret
      exact ⟨rfl, rfl⟩
  · rw [if_neg h]
    have h2 : (a == 0) = false := beq_false_of_ne h
    go_enter Tryz.func54, Tryz.ntmps54
    go_wp2_with fail
    refine wp_loop_rounds 4 ?_
    rw [rounds_succ]
    go_wp2_with fail
    go_ret
    exact ⟨rfl, rfl⟩
theorem or3_new (W : World) (p : Nat) (a b c : Int) (hp : p = W.heap.size) : Calls Tryz.prog 54 #[.slice (some ⟨p, 0, none⟩) 3 3] (W.alloc (.cells #[.int .i64 a, .int .i64 b, .int .i64 c] 3)).drew fun e w' => e = .returned (.int .i64 (or3 a b c)) ∧ w' = (W.alloc (.cells #[.int .i64 a, .int .i64 b, .int .i64 c] 3)).drew := by
  subst hp
  refine or_int3 _ _ _ _ _ ?_ ?_ ?_ <;>
  · show (W.alloc (.cells #[.int .i64 a, .int .i64 b, .int .i64 c] 3)).cell? _ = _
    rw [World.cell?_alloc_at _ _ _ _ rfl]; rfl
theorem or3_new2 (W : World) (p : Nat) (a b c : Int) (hp : p = W.heap.size) : Calls Tryz.prog 54 #[.slice (some ⟨p, 0, none⟩) 3 3] (W.drew.alloc (.cells #[.int .i64 a, .int .i64 b, .int .i64 c] 3)) fun e w' => e = .returned (.int .i64 (or3 a b c)) ∧ w' = W.drew.alloc (.cells #[.int .i64 a, .int .i64 b, .int .i64 c] 3) := by
  subst hp
  refine or_int3 _ _ _ _ _ ?_ ?_ ?_
  · exact (World.cell?_alloc_at (w := W.drew) _ _ W.heap.size 0 rfl).trans rfl
  · exact (World.cell?_alloc_at (w := W.drew) _ _ W.heap.size 1 rfl).trans rfl
  · exact (World.cell?_alloc_at (w := W.drew) _ _ W.heap.size 2 rfl).trans rfl
theorem or3_new3 (W : World) (p : Nat) (a b c : Int) (hp : p = W.heap.size) : Calls Tryz.prog 54 #[.slice (some ⟨p, 0, none⟩) 3 3] (W.alloc (.cells #[.int .i64 a, .int .i64 b, .int .i64 c] 3)) fun e w' => e = .returned (.int .i64 (or3 a b c)) ∧ w' = W.alloc (.cells #[.int .i64 a, .int .i64 b, .int .i64 c] 3) := by
  subst hp
  refine or_int3 _ _ _ _ _ ?_ ?_ ?_
  · exact (World.cell?_alloc_at (w := W) _ _ W.heap.size 0 rfl).trans rfl
  · exact (World.cell?_alloc_at (w := W) _ _ W.heap.size 1 rfl).trans rfl
  · exact (World.cell?_alloc_at (w := W) _ _ W.heap.size 2 rfl).trans rfl
set_option maxRecDepth 100000 in
set_option maxHeartbeats 2000000 in
theorem cmpfl_any (w : World) (a b c x y z : Int) : Calls Tryz.prog 24 #[.agg #[.int .i64 a, .int .i64 b, .int .i64 c], .agg #[.int .i64 x, .int .i64 y, .int .i64 z]] w fun e w' => e = .returned (.int .i64 (or3 (cmpI a x) (cmpI b y) (cmpI c z))) ∧ ∃ q os', w' = grow (w.drewN q) os' := by
  have HC := fun (w' : World) (x y : Int) => compare_int w' x y
  have hg : ∃ os, (w.alloc (.cells #[.int .i64 a, .int .i64 b, .int .i64 c] 50)).alloc (.cells #[.int .i64 x, .int .i64 y, .int .i64 z] 50) = grow w os := ⟨_, by rw [alloc_eq_grow, alloc_eq_grow, grow_grow]⟩
  have p : ∀ k v, (#[.int .i64 a, .int .i64 b, .int .i64 c] : Array Value)[k]? = some v → ((w.alloc (.cells #[.int .i64 a, .int .i64 b, .int .i64 c] 50)).alloc (.cells #[.int .i64 x, .int .i64 y, .int .i64 z] 50)).cell? ⟨w.heap.size, k, none⟩ = some v := fun k v h => (World.cell?_alloc_past _ _ _ (by simp)).trans ((World.cell?_alloc_at _ _ _ _ rfl).trans h)
  have q : ∀ k v, (#[.int .i64 x, .int .i64 y, .int .i64 z] : Array Value)[k]? = some v → ((w.alloc (.cells #[.int .i64 a, .int .i64 b, .int .i64 c] 50)).alloc (.cells #[.int .i64 x, .int .i64 y, .int .i64 z] 50)).cell? ⟨w.heap.size + 1, k, none⟩ = some v := fun k v h => by rw [World.cell?_alloc_at _ _ _ _ (by simp)]; exact h
  have a0 := p 0 _ rfl
  have a1 := p 1 _ rfl
  have a2 := p 2 _ rfl
  have x0 := q 0 _ rfl
  have x1 := q 1 _ rfl
  have x2 := q 2 _ rfl
  have HG := Lib.hid hg
  clear hg p q
  go_enter Tryz.func24, Tryz.ntmps24
  go_wp2_with fail
  generalize (w.alloc (.cells #[.int .i64 a, .int .i64 b, .int .i64 c] 50)).alloc (.cells #[.int .i64 x, .int .i64 y, .int .i64 z] 50) = W2 at *
  go_region_held3 (fun w' => w'.cell? ⟨w.heap.size, 0, none⟩ = some (.int .i64 a) ∧ w'.cell? ⟨w.heap.size, 1, none⟩ = some (.int .i64 b) ∧ w'.cell? ⟨w.heap.size, 2, none⟩ = some (.int .i64 c) ∧ w'.cell? ⟨w.heap.size + 1, 0, none⟩ = some (.int .i64 x) ∧ w'.cell? ⟨w.heap.size + 1, 1, none⟩ = some (.int .i64 y) ∧ w'.cell? ⟨w.heap.size + 1, 2, none⟩ = some (.int .i64 z)) (first | (with_reducible exact ⟨a0, a1, a2, x0, x1, x2⟩) | go_keep)
    (first
    | (go_at_call 55; (with_reducible refine (HC _ _ _).mono ?_); rintro e w' ⟨rfl, rfl⟩)
    | (go_at_call 54; refine (or3_new _ _ _ _ _ rfl).mono ?_; rintro e w' ⟨rfl, rfl⟩)
    | (go_at_call 54; refine (or3_new2 _ _ _ _ _ rfl).mono ?_; rintro e w' ⟨rfl, rfl⟩))
  go_wp2_with fail
  go_ret
  obtain ⟨os, hos⟩ := HG.out
  subst hos
  exact ⟨rfl, 1, _, by rw [alloc_eq_grow, grow_grow]; rfl⟩
set_option maxRecDepth 100000 in
theorem rank_any (w : World) (h : Bool) (k d : Int) : Calls Tryz.prog 57 #[.agg #[.bool h, .int .i64 k, .int .i64 d]] w fun e w' => e = .returned (.int .i64 (if h then 1 else 0)) ∧ w' = w.alloc (.cells #[.bool h, .int .i64 k, .int .i64 d] 46) := by
  cases h with
  | true =>
    go_enter Tryz.func57, Tryz.ntmps57
    go_wp2_with fail
    go_ret
    exact ⟨rfl, rfl⟩
  | false =>
    go_enter Tryz.func57, Tryz.ntmps57
    go_wp2_with fail
    go_ret
    exact ⟨rfl, rfl⟩

theorem rank_gr (w : World) (h : Bool) (k d : Int) : Calls Tryz.prog 57 #[.agg #[.bool h, .int .i64 k, .int .i64 d]] w fun e w' => e = .returned (.int .i64 (if h then 1 else 0)) ∧ Below w.heap.size w w' ∧ ∃ os, w' = grow w os :=
  (rank_any w h k d).mono fun e w' he => by
    obtain ⟨h1, rfl⟩ := he
    exact ⟨h1, newF _ _, _, alloc_eq_grow _ _⟩
theorem grow_step {w W w' : World} (h : Hid (∃ os, W = grow w os)) (h' : ∃ os, w' = grow W os) : Hid (∃ os, w' = grow w os) := Lib.hid (by
  obtain ⟨os, h1⟩ := h.out
  obtain ⟨os', rfl⟩ := h'
  exact ⟨_, by rw [h1, grow_grow]⟩)
set_option maxRecDepth 100000 in
set_option maxHeartbeats 4000000 in
theorem cmpwa_any (w : World) (a x : Bool) (b c y z : Int) : Calls Tryz.prog 26 #[.agg #[.bool a, .int .i64 b, .int .i64 c], .agg #[.bool x, .int .i64 y, .int .i64 z]] w fun e w' => e = .returned (.int .i64 (or3 (cmpI c z) (cmpI (if a then 1 else 0) (if x then 1 else 0)) (cmpI b y))) ∧ ∃ q os', w' = grow (w.drewN q) os' := by
  have HC := fun (w' : World) (x y : Int) => compare_int w' x y
  have HRa := fun (w' : World) => rank_gr w' a b c
  have HRx := fun (w' : World) => rank_gr w' x y z
  have hg : ∃ os, (w.alloc (.cells #[.bool a, .int .i64 b, .int .i64 c] 46)).alloc (.cells #[.bool x, .int .i64 y, .int .i64 z] 46) = grow w os := ⟨_, by rw [alloc_eq_grow, alloc_eq_grow, grow_grow]⟩
  have p : ∀ k v, (#[.bool a, .int .i64 b, .int .i64 c] : Array Value)[k]? = some v → ((w.alloc (.cells #[.bool a, .int .i64 b, .int .i64 c] 46)).alloc (.cells #[.bool x, .int .i64 y, .int .i64 z] 46)).cell? ⟨w.heap.size, k, none⟩ = some v := fun k v h => (World.cell?_alloc_past _ _ _ (by simp)).trans ((World.cell?_alloc_at _ _ _ _ rfl).trans h)
  have q : ∀ k v, (#[.bool x, .int .i64 y, .int .i64 z] : Array Value)[k]? = some v → ((w.alloc (.cells #[.bool a, .int .i64 b, .int .i64 c] 46)).alloc (.cells #[.bool x, .int .i64 y, .int .i64 z] 46)).cell? ⟨w.heap.size + 1, k, none⟩ = some v := fun k v h => by rw [World.cell?_alloc_at _ _ _ _ (by simp)]; exact h
  have a0 := p 0 _ rfl
  have a1 := p 1 _ rfl
  have a2 := p 2 _ rfl
  have x0 := q 0 _ rfl
  have x1 := q 1 _ rfl
  have x2 := q 2 _ rfl
  have HG := Lib.hid hg
  clear hg p q
  generalize (if a then (1 : Int) else 0) = ra at *
  generalize (if x then (1 : Int) else 0) = rx at *
  go_enter Tryz.func26, Tryz.ntmps26
  go_wp2_with fail
  generalize (w.alloc (.cells #[.bool a, .int .i64 b, .int .i64 c] 46)).alloc (.cells #[.bool x, .int .i64 y, .int .i64 z] 46) = W2 at *
  have HG : Hid (∃ os, W2.drew = grow (w.drewN 1) os) := Lib.hid (by obtain ⟨os, h⟩ := HG.out; exact ⟨os, by rw [h]; rfl⟩)
  go_region_held3 (fun w' => w'.cell? ⟨w.heap.size, 0, none⟩ = some (.bool a) ∧ w'.cell? ⟨w.heap.size, 1, none⟩ = some (.int .i64 b) ∧ w'.cell? ⟨w.heap.size, 2, none⟩ = some (.int .i64 c) ∧ w'.cell? ⟨w.heap.size + 1, 0, none⟩ = some (.bool x) ∧ w'.cell? ⟨w.heap.size + 1, 1, none⟩ = some (.int .i64 y) ∧ w'.cell? ⟨w.heap.size + 1, 2, none⟩ = some (.int .i64 z)) (first | (with_reducible exact ⟨a0, a1, a2, x0, x1, x2⟩) | go_keep)
    (first
    | (go_at_call 55; (with_reducible refine (HC _ _ _).mono ?_); rintro e w' ⟨rfl, rfl⟩)
    | (go_at_call 54; refine (or3_new _ _ _ _ _ rfl).mono ?_; rintro e w' ⟨rfl, rfl⟩)
    | (go_at_call 54; refine (or3_new3 _ _ _ _ _ rfl).mono ?_; rintro e w' ⟨rfl, rfl⟩)
    | (go_at_call 54; refine (or3_new2 _ _ _ _ _ rfl).mono ?_; rintro e w' ⟨rfl, rfl⟩)
    | (go_at_call 57; (first | (with_reducible refine (HRa _).mono ?_) | (with_reducible refine (HRx _).mono ?_)); rintro e w' ⟨rfl, hb', hg'⟩; have HG := grow_step HG hg'; have a0 := keepF hb' a0; have a1 := keepF hb' a1; have a2 := keepF hb' a2; have x0 := keepF hb' x0; have x1 := keepF hb' x1; have x2 := keepF hb' x2; clear hb' hg'))
  go_wp2_with fail
  go_ret
  obtain ⟨os, hos⟩ := HG.out
  subst hos
  exact ⟨rfl, 1, _, by rw [alloc_eq_grow, grow_grow]⟩

end Go.Proofs.YtgeneoamngfomaaGreatDoor

namespace Go.Proofs.YtgeneoamngfomaaGreatDoor
open Go.RowKit Go.Lib Go.Maps Go.Sort Go.Shelf
set_option linter.unusedVariables false
set_option linter.unusedSimpArgs false

def rkW (x : Wat) : Int := if decide (x.h = 1) = true then 1 else 0
def cfF (x y : Flw) : Int := or3 (cmpI x.d y.d) (cmpI x.c y.c) (cmpI x.n y.n)
def cfW (x y : Wat) : Int := or3 (cmpI x.d y.d) (cmpI (rkW x) (rkW y)) (cmpI x.k y.k)
theorem or3_neg (a b c x y z : Int) : or3 (cmpI a x) (cmpI b y) (cmpI c z) < 0 ↔ a < x ∨ (a = x ∧ (b < y ∨ (b = y ∧ c < z))) := by
  unfold or3 or2 cmpI
  by_cases h1 : a < x
  · simp [h1]
  · by_cases h2 : x < a
    · have : ¬ a = x := by omega
      simp [h1, h2, this]
    · have h3 : a = x := by omega
      subst h3
      simp
      by_cases h4 : b < y
      · simp [h4]
      · by_cases h5 : y < b
        · have : ¬ b = y := by omega
          simp [h4, h5, this]
        · have h6 : b = y := by omega
          subst h6
          simp
          by_cases h7 : c < z
          · simp [h7]
          · by_cases h8 : z < c <;> simp [h7, h8]
theorem lt_cfF (x y : Flw) : ltOf cfF x y = true ↔ bfF x y := by
  unfold ltOf
  rw [decide_eq_true_iff]
  exact or3_neg _ _ _ _ _ _
theorem lt_cfF' (x y : Flw) : ltOf cfF x y = false ↔ ¬ bfF x y := by rw [← lt_cfF]; simp
theorem swo_cfF : SWO (ltOf cfF) where
  irrefl x := by rw [lt_cfF']; exact bfF_irr x
  trans x y z h1 h2 := by rw [lt_cfF] at *; exact bfF_trans h1 h2
  ntrans x y z h1 h2 := by rw [lt_cfF'] at *; unfold bfF at *; omega
def blW (x y : Wat) : Prop := x.d < y.d ∨ (x.d = y.d ∧ (rkW x < rkW y ∨ (rkW x = rkW y ∧ x.k < y.k)))
theorem lt_cfW (x y : Wat) : ltOf cfW x y = true ↔ blW x y := by
  unfold ltOf
  rw [decide_eq_true_iff]
  exact or3_neg _ _ _ _ _ _
theorem lt_cfW' (x y : Wat) : ltOf cfW x y = false ↔ ¬ blW x y := by rw [← lt_cfW]; simp
theorem swo_cfW : SWO (ltOf cfW) where
  irrefl x := by rw [lt_cfW']; unfold blW; omega
  trans x y z h1 h2 := by rw [lt_cfW] at *; unfold blW at *; omega
  ntrans x y z h1 h2 := by rw [lt_cfW'] at *; unfold blW at *; omega
set_option maxRecDepth 100000 in
theorem sortfl {w : World} {base : Nat} {v : Value} {ps : List Flw} (ho : OwnX flL 3 50 w base v ps) (hl : ps.length ≤ 100000) :
    Calls Tryz.prog 23 #[v, .func (.func 24) #[] #[]] w fun e w' => e = .returned (.tuple #[]) ∧ ∃ m, SrF m ∧ m.Perm ps ∧ OwnX flL 3 50 w' base v m ∧ w.grownBy w' v.ownBlock := by
  have eg : ∀ args w, (callFunc 24 args).run Tryz.prog w = .ok (.enter 24 args) w := enters_of Tryz.func24 (by kernel_rfl) rfl
  refine (sort_x (cf := cfF) (E := flL) (k := 3) (fun _ => rfl) (by decide) (fun p cap => ?_) (fun blk cap d hH hb hs => ?_) ho hl).mono ?_
  · have h := AnyF.slices_SortFunc_none (P := Tryz.prog) (ρ := Tryz.sortFl_ren) Tryz.sortFl p cap (.func (.func 24) #[] #[]) w
    exact h
  · have h := AnyQ.slices_SortFunc Tryz.sortFl 3 Tryz.isAgg50 Tryz.sizeOf50 flL (fun _ => rfl) flL_one cfF swo_cfF 24 #[] blk 0 cap d w eg (fun _ _ _ _ x y => cmpfl_any _ x.d x.c x.n y.d y.c y.n) hH hb hs
    exact h
  · rintro e w' ⟨he, m, h1, h2⟩
    exact ⟨he, m, h1.imp fun {a b} h => (lt_cfF' b a).1 h, h2⟩
set_option maxRecDepth 100000 in
theorem sortwt {w : World} {base : Nat} {v : Value} {ps : List Wat} (ho : OwnX waL 3 46 w base v ps) (hl : ps.length ≤ 100000) :
    Calls Tryz.prog 25 #[v, .func (.func 26) #[] #[]] w fun e w' => e = .returned (.tuple #[]) ∧ ∃ m, m.Pairwise (fun a b => ¬ blW b a) ∧ m.Perm ps ∧ OwnX waL 3 46 w' base v m ∧ w.grownBy w' v.ownBlock := by
  have eg : ∀ args w, (callFunc 26 args).run Tryz.prog w = .ok (.enter 26 args) w := enters_of Tryz.func26 (by kernel_rfl) rfl
  refine (sort_x (cf := cfW) (E := waL) (k := 3) (fun _ => rfl) (by decide) (fun p cap => ?_) (fun blk cap d hH hb hs => ?_) ho hl).mono ?_
  · have h := AnyF.slices_SortFunc_none (P := Tryz.prog) (ρ := Tryz.sortWt_ren) Tryz.sortWt p cap (.func (.func 26) #[] #[]) w
    exact h
  · have h := AnyQ.slices_SortFunc Tryz.sortWt 3 Tryz.isAgg46 Tryz.sizeOf46 waL (fun _ => rfl) waL_one cfW swo_cfW 26 #[] blk 0 cap d w eg (fun _ _ _ _ x y => cmpwa_any _ (decide (x.h = 1)) (decide (y.h = 1)) x.k x.d y.k y.d) hH hb hs
    exact h
  · rintro e w' ⟨he, m, h1, h2⟩
    exact ⟨he, m, h1.imp fun {a b} h => (lt_cfW' b a).1 h, h2⟩

end Go.Proofs.YtgeneoamngfomaaGreatDoor

namespace Go.Proofs.YtgeneoamngfomaaGreatDoor
open Go.RowKit Go.Lib Go.Maps Go.Sort Go.Shelf
set_option linter.unusedVariables false
set_option linter.unusedSimpArgs false
set_option linter.unusedSectionVars false

section
variable {α : Type} [Inhabited α]
theorem own_cells {E : α → List Value} {k : Nat} (hk : ∀ t, (E t).length = k) {ty : TypeId} {w : World} {base g n cap : Nat} {m : List α} (h : OwnX E k ty w base (.slice (some ⟨g, 0, none⟩) n cap) m) : ∀ j, j < m.length → ∀ i c, i < k → (E (m.getD j default))[i]? = some c → w.cell? ⟨g, j * k + i, none⟩ = some c := fun j hj => by
  obtain ⟨g', cap', e, _, _, _, hc⟩ := h.at hk (by omega)
  injection e with e1 _ _
  injection e1 with e1
  injection e1 with e1
  subst e1
  exact hc j hj
theorem own_len0 {E : α → List Value} {k : Nat} (k0 : 0 < k) (hk : ∀ t, (E t).length = k) {ty : TypeId} {w : World} {base g n cap : Nat} {m : List α} (h : OwnX E k ty w base (.slice (some ⟨g, 0, none⟩) n cap) m) : n = m.length ∧ m.length ≤ cap ∧ cap ≤ maxLen ∧ base ≤ g := by
  rcases h.2 with ⟨e, _⟩ | ⟨g', cap', cur, e, hb, _, h3, h4, _⟩
  · cases e
  · injection e with e1 e2 e3
    injection e1 with e1
    injection e1 with e1
    subst e1 e2 e3
    exact ⟨rfl, h3, h4, hb⟩
theorem own_frozen {E : α → List Value} {k : Nat} {ty : TypeId} {w : World} {base g n cap : Nat} {m : List α} (h : OwnX E k ty w base (.slice (some ⟨g, 0, none⟩) n cap) m) (i : Nat) : w.frozen? ⟨g, i, none⟩ = false := by
  rcases h.2 with ⟨e, _⟩ | ⟨g', cap', cur, e, hb, hc, _⟩
  · cases e
  · injection e with e1 e2 e3
    injection e1 with e1
    injection e1 with e1
    subst e1
    simp [World.frozen?, hc]
/-- One cell of the row is stored. -/
theorem own_set {ty : TypeId} {w : World} {base k g n cap : Nat} {xs : List Value} (h : w.ownsRow base ty k (.slice (some ⟨g, 0, none⟩) n cap) n xs) (i : Nat) (v : Value) : (w.setCell ⟨g, i, none⟩ v).ownsRow base ty k (.slice (some ⟨g, 0, none⟩) n cap) n (xs.set i v) := by
  obtain ⟨h1, h2⟩ := h
  refine ⟨by rw [List.length_set]; exact h1, ?_⟩
  rcases h2 with ⟨e, _⟩ | ⟨g', cap', cur, e, hb, hc, h3, h4, h5, h6⟩
  · cases e
  · injection e with e1 _ e3
    injection e1 with e1
    injection e1 with e1
    subst e1 e3
    refine .inr ⟨g, cap, cur.setIfInBounds i v, rfl, hb, heap_setCell_same w g i cur ty v hc, h3, h4, by rw [Array.size_setIfInBounds]; exact h5, ?_⟩
    rw [Array.toList_setIfInBounds, List.take_set, h6]
theorem own_sets {ty : TypeId} {base k g n cap : Nat} {xs : List Value} : ∀ (vs : List Value) (o : Nat) (w : World), w.ownsRow base ty k (.slice (some ⟨g, 0, none⟩) n cap) n xs → xs.length ≤ o → (w.setCells g o vs).ownsRow base ty k (.slice (some ⟨g, 0, none⟩) n cap) n xs ∧ w.grownBy (w.setCells g o vs) (some g)
  | [], o, w, h, _ => ⟨h, rfl, rfl, rfl, Nat.le_refl _, fun _ _ _ => rfl⟩
  | v :: vs, o, w, h, ho => by
    have h1 := own_set h o v
    rw [List.set_eq_of_length_le ho] at h1
    obtain ⟨h2, h3⟩ := own_sets vs (o + 1) (w.setCell ⟨g, o, none⟩ v) h1 (by omega)
    have h4 := grownBy_set w g o v
    exact ⟨h2, h3.os.trans h4.os, h3.tape.trans h4.tape, h3.output.trans h4.output, Nat.le_trans h4.size h3.size, fun k hk hne => (h3.block k (Nat.lt_of_lt_of_le hk h4.size) hne).trans (h4.block k hk hne)⟩
theorem own_take {E : α → List Value} {k : Nat} (hk : ∀ t, (E t).length = k) {ty : TypeId} {w : World} {base g n cap : Nat} {m : List α} (h : OwnX E k ty w base (.slice (some ⟨g, 0, none⟩) n cap) m) {j : Nat} (hj : j ≤ m.length) : OwnX E k ty w base (.slice (some ⟨g, 0, none⟩) j cap) (m.take j) := by
  obtain ⟨h1, h2⟩ := id h
  have hl : (m.take j).length = j := by rw [List.length_take]; omega
  refine ⟨by rw [flx_len hk, hl], ?_⟩
  rcases h2 with ⟨e, _⟩ | ⟨g', cap', cur, e, hb, hc, h3, h4, h5, h6⟩
  · cases e
  · injection e with e1 e2 e3
    injection e1 with e1
    injection e1 with e1
    subst e1 e3
    refine .inr ⟨g, cap, cur, by rw [hl], hb, hc, by omega, h4, h5, ?_⟩
    rw [hl]
    have e7 : cur.toList.take (j * k) = (cur.toList.take (m.length * k)).take (j * k) := by rw [List.take_take, Nat.min_eq_left (Nat.mul_le_mul_right k hj)]
    rw [e7, h6]
    have e8 : m.flatMap E = (m.take j).flatMap E ++ (m.drop j).flatMap E := by rw [← List.flatMap_append, List.take_append_drop]
    rw [e8, List.take_append_of_le_length (by rw [flx_len hk, hl]; exact Nat.le_refl _), List.take_of_length_le (by rw [flx_len hk, hl]; exact Nat.le_refl _)]
end
theorem flat_set : ∀ (L : List Wat) (k : Nat) (x : Wat), k < L.length → ((((L.flatMap waL).set (k * 3) (.bool (decide (x.h = 1)))).set (k * 3 + 1) (.int .i64 x.k)).set (k * 3 + 2) (.int .i64 x.d)) = (L.set k x).flatMap waL
  | [], k, x, h => absurd h (Nat.not_lt_zero _)
  | y :: L, 0, x, _ => rfl
  | y :: L, k + 1, x, h => by
    have ih := flat_set L k x (by simpa using h)
    rw [List.set_cons_succ, List.flatMap_cons, List.flatMap_cons, ← ih]
    have hl : (waL y).length = 3 := rfl
    rw [show (k + 1) * 3 = 3 + k * 3 by omega, show 3 + k * 3 + 1 = 3 + (k * 3 + 1) by omega, show 3 + k * 3 + 2 = 3 + (k * 3 + 2) by omega, ← hl]
    rw [List.set_append_right _ _ (by omega), List.set_append_right _ _ (by omega), List.set_append_right _ _ (by omega), Nat.add_sub_cancel_left, Nat.add_sub_cancel_left, Nat.add_sub_cancel_left]
theorem own_put {w : World} {base g n cap : Nat} {m : List Wat} (h : OwnX waL 3 46 w base (.slice (some ⟨g, 0, none⟩) n cap) m) {k : Nat} (hk : k < m.length) (x : Wat) : OwnX waL 3 46 (((w.setCell ⟨g, k * 3, none⟩ (.bool (decide (x.h = 1)))).setCell ⟨g, k * 3 + 1, none⟩ (.int .i64 x.k)).setCell ⟨g, k * 3 + 2, none⟩ (.int .i64 x.d)) base (.slice (some ⟨g, 0, none⟩) n cap) (m.set k x) := by
  obtain ⟨rfl, _⟩ := own_len0 (E := waL) (k := 3) (by decide) (fun _ => rfl) h
  have h1 := own_set (own_set (own_set h (k * 3) (.bool (decide (x.h = 1)))) (k * 3 + 1) (.int .i64 x.k)) (k * 3 + 2) (.int .i64 x.d)
  unfold OwnX
  rw [List.length_set, ← flat_set m k x hk]
  exact h1

theorem eq_wait (a c : Bool) (k d k' d' : Int) (w : World) : (Op.equalIn 10000 46 (.agg #[.bool a, .int .i64 k, .int .i64 d]) (.agg #[.bool c, .int .i64 k', .int .i64 d'])).run Tryz.prog w = .ok (a == c && k == k' && d == d') w := by
  have hS : Tryz.prog.underlying 46 = some (.struct (Tryz.prog.fieldsOf 46)) := by kernel_rfl
  have hp : Tryz.prog.stoodInHeld 46 = false := by kernel_rfl
  rw [show (10000 : Nat) = 9999 + 1 from rfl, run_equalIn_agg w 9999 46 _ _ hS hp]
  simp only [Program.fieldsOf, Tryz.underlying46]
  go_simp
  by_cases h1 : a = c <;> by_cases h2 : k = k' <;> by_cases h3 : d = d' <;> simp [h1, h2, h3]
theorem wait_eq {x y : Wat} (hx : x.h = 0 ∨ x.h = 1) (hy : y.h = 0 ∨ y.h = 1) : (decide (x.h = 1) == decide (y.h = 1) && x.k == y.k && x.d == y.d) = decide (x = y) := by
  obtain ⟨xd, xh, xk⟩ := x
  obtain ⟨yd, yh, yk⟩ := y
  dsimp only at *
  by_cases h1 : xd = yd <;> by_cases h2 : xk = yk <;> rcases hx with rfl | rfl <;> rcases hy with rfl | rfl <;> simp [h1, h2]
theorem arr_getD (L : List Wat) (j : Nat) (h : j < L.length) : L.toArray[j]! = L.getD j default := by
  simp [List.getD_eq_getElem?_getD, h]
theorem grown3 {w w1 w2 : World} {row : Option Nat} (h : w.grownBy w1 row) (h' : w1.grownBy w2 row) : w.grownBy w2 row :=
  ⟨h'.os.trans h.os, h'.tape.trans h.tape, h'.output.trans h.output, Nat.le_trans h.size h'.size, fun k hk hne => (h'.block k (Nat.lt_of_lt_of_le hk h.size) hne).trans (h.block k hk hne)⟩
theorem run_clear3 (w : World) (ty : TypeId) (b o n c : Nat) (hn : 0 < n) (hc : ∀ j, j < n * 3 → (w.cell? ⟨b, o + j, none⟩).isSome = true) (hf : ∀ j, j < n * 3 → w.frozen? ⟨b, o + j, none⟩ = false) :
    (Builtin.clear_ #[34] ty #[.slice (some ⟨b, o, none⟩) n c]).run Tryz.prog w = .ok (.tuple #[]) (w.setCells b o (Builtin.zeroCells #[.bool false, .int .i64 0, .int .i64 0] n).toList) := by
  have hv : ∀ w, (zeroValue 46).run Tryz.prog w = .ok (.agg #[.bool false, .int .i64 0, .int .i64 0]) w := fun w => by kernel_rfl
  have hzl : (Builtin.zeroCells #[.bool false, .int .i64 0, .int .i64 0] n).toList.length = n * 3 := by simp [Builtin.zeroCells]
  have hst := run_storeCells_cells (P := Tryz.prog) b o (Builtin.zeroCells #[.bool false, .int .i64 0, .int .i64 0] n).toList 0 w (by rw [hzl]; simpa using hc) (by rw [hzl]; simpa using hf) (by
    intro v hv'
    simp only [Builtin.zeroCells, Array.toList_map, List.mem_map] at hv'
    obtain ⟨i, _, rfl⟩ := hv'
    have hi : i % 3 = 0 ∨ i % 3 = 1 ∨ i % 3 = 2 := by omega
    show (#[Value.bool false, .int .i64 0, .int .i64 0][i % 3]!).oneCell' = true
    rcases hi with e | e | e <;> rw [e] <;> rfl)
  simp only [Nat.add_zero] at hst
  obtain ⟨m, rfl⟩ : ∃ m, n = m + 1 := ⟨n - 1, by omega⟩
  simp [Builtin.clear_, run_underlying Tryz.underlying34, hv, Value.cells, hst]
set_option maxRecDepth 100000 in
set_option maxHeartbeats 8000000 in
theorem compact_any {w : World} {base : Nat} {v : Value} {m : List Wat} (ho : OwnX waL 3 46 w base v m) (hl : m.length ≤ 100000) (hb1 : ∀ j, j < m.length → (m.getD j default).h = 0 ∨ (m.getD j default).h = 1) :
    Calls Tryz.prog 27 #[v] w fun e w' => ∃ v', e = .returned v' ∧ OwnX waL 3 46 w' base v' (compactUpTo m.toArray m.length) ∧ w.grownBy w' v.ownBlock := by
  have gnone : w.grownBy w v.ownBlock := ⟨rfl, rfl, rfl, Nat.le_refl _, fun _ _ _ => rfl⟩
  by_cases h2 : m.length < 2
  · have e : compactUpTo m.toArray m.length = m := by
      have h := compactUpTo_all m.toArray m.length (fun j hj => keeps_lt_one m.toArray j (by omega))
      rw [h]
      have h3 := range_map_get m.toArray
      simpa using h3
    have HO := Lib.hid ho
    have HG := Lib.hid gnone
    obtain ⟨a, c, rfl⟩ := ho.slice
    have i1 : (m.length : Int) < 2 := by omega
    rw [e]
    clear ho gnone hb1 h2 e
    go_enter Tryz.func27, Tryz.ntmps27
    go_wp2_with fail
    go_ret
    exact ⟨_, rfl, HO.out, HG.out⟩
  · obtain ⟨g, cap, rfl⟩ : ∃ g cap, v = .slice (some ⟨g, 0, none⟩) m.length cap := by
      obtain ⟨g, cap, e, _⟩ := ho.at (E := waL) (k := 3) (fun _ => rfl) (by omega)
      exact ⟨g, cap, e⟩
    have i1 : ¬ (m.length : Int) < 2 := by omega
    have HO := Lib.hid ho
    have HB1 := Lib.hid hb1
    have HN2 : Hid (2 ≤ m.length) := Lib.hid (by omega)
    obtain ⟨_, hcap, hcm, _⟩ := own_len0 (E := waL) (k := 3) (by decide) (fun _ => rfl) ho
    have HCp : Hid (m.length ≤ cap ∧ cap ≤ 9223372036854775807) := Lib.hid ⟨hcap, by unfold maxLen at hcm; omega⟩
    clear ho gnone hb1 h2 hcap hcm
    go_enter Tryz.func27, Tryz.ntmps27
    go_wp2_with fail
    go_loopg [3] m.length (fun gh s3 wr => ∃ k q : Nat, 1 ≤ k ∧ k ≤ m.length ∧ m.length - k ≤ gh ∧ s3 = .int .i64 k ∧ wr = w.drewN q ∧ ∀ j, j < k → keeps m.toArray j = true)
    case atStart => exact ⟨1, 0, Nat.le_refl _, by have := HN2.out; omega, by omega, rfl, rfl, keeps_lt_one m.toArray⟩
    case round =>
      obtain ⟨k, q, hk1, hk, hg, rfl, rfl, hall⟩ := hrel
      by_cases hlt : k < m.length
      · have cK := own_cells (E := waL) (k := 3) (fun _ => rfl) HO.out k hlt
        have cJ := own_cells (E := waL) (k := 3) (fun _ => rfl) HO.out (k - 1) (by omega)
        have hwx := wait_eq (HB1.out k hlt) (HB1.out (k - 1) (by omega))
        have hfr := own_frozen HO.out
        have HAl := Lib.hid hall
        have HK : Hid (keeps m.toArray k = decide (m.getD k default ≠ m.getD (k - 1) default)) := Lib.hid (by
          unfold keeps
          rw [arr_getD m k hlt, arr_getD m (k - 1) (by omega)]
          have : ¬ k = 0 := by omega
          simp [this])
        have HI := Lib.hid (And.intro hlt (And.intro hk (And.intro hk1 hg)))
        have a0 : w.cell? ⟨g, k * 3, none⟩ = some (.bool (decide ((m.getD k default).h = 1))) := cK 0 _ (by decide) rfl
        have a1 := cK 1 _ (by decide) rfl
        have a2 := cK 2 _ (by decide) rfl
        have b0 : w.cell? ⟨g, (k - 1) * 3, none⟩ = some (.bool (decide ((m.getD (k - 1) default).h = 1))) := cJ 0 _ (by decide) rfl
        have b1 := cJ 1 _ (by decide) rfl
        have b2 := cJ 2 _ (by decide) rfl
        clear cK cJ hall
        generalize m.getD k default = x at *
        generalize m.getD (k - 1) default = y at *
        obtain ⟨xd, xh, xk⟩ := x
        obtain ⟨yd, yh, yk⟩ := y
        dsimp only at *
        have heq := fun W => eq_wait (decide (xh = 1)) (decide (yh = 1)) xk xd yk yd W
        rw [hwx] at heq
        generalize decide (xh = 1) = xc at *
        generalize decide (yh = 1) = yc at *
        have p0 : (0 : Int) ≤ (k : Int) := by omega
        have p1 : (k : Int) < (m.length : Int) := by omega
        by_cases hdup : (⟨xd, xh, xk⟩ : Wat) = ⟨yd, yh, yk⟩
        · rw [decide_eq_true hdup] at heq
          have HDu := Lib.hid hdup
          clear hdup hwx
          go_wp2_with fail
          go_region
          have HKf : Hid (keeps m.toArray k = false) := Lib.hid (by rw [HK.out, HDu.out]; simp)
          have i2 : (k : Int) ≤ (m.length : Int) := by omega
          have i3 : (m.length : Int) ≤ (cap : Int) := by have := HCp.out; omega
          have i4 : (cap : Int) ≤ 9223372036854775807 := by have := HCp.out; omega
          have i5 : (k : Int) ≤ (cap : Int) := by omega
          clear a0 a1 a2 b0 b1 b2 heq hfr
          go_wp2_with fail
          go_loopg [3, 5] m.length (fun gh s3 s5 wr => ∃ (kk k2 : Nat) (dk : Array Wat), s3 = .int .i64 (kk : Nat) ∧ s5 = .int .i64 (k2 : Nat) ∧ 1 ≤ k2 ∧ k + k2 ≤ m.length ∧ m.length - (k + k2) ≤ gh ∧ OwnX waL 3 46 wr base (.slice (some ⟨g, 0, none⟩) m.length cap) dk.toList ∧ w.grownBy wr (some g) ∧ CompInv m.toArray (k + k2) kk dk)
          case atStart => exact ⟨k, 1, m.toArray, rfl, rfl, Nat.le_refl _, by have := HI.out; omega, by omega, HO.out.grown (drewN_belowR _ _), ⟨rfl, rfl, rfl, Nat.le_refl _, fun _ _ _ => rfl⟩, CompInv.start HAl.out HKf.out⟩
          case round =>
            obtain ⟨kk, k2, dk, rfl, rfl, h1, hle, hg2, ho2, hgr, hI⟩ := hrel
            have hkk := hI.lt
            have hds : dk.toList.length = m.length := by have := hI.size; simpa using this
            have HO2 := Lib.hid ho2
            have HGr := Lib.hid hgr
            have HI2 := Lib.hid hI
            have hfr := own_frozen ho2
            have hget : ∀ j, j < m.length → dk.toList.getD j default = dk[j]! := fun j hj => by
              have hj' : j < dk.size := by have := hI.size; simp at this; omega
              rw [getElem!_pos dk j hj']
              simp [List.getD_eq_getElem?_getD, hj']
            have hhi : ∀ j, kk ≤ j → j < m.length → dk.toList.getD j default = m.getD j default := fun j h hj => by
              rw [hget j hj, hI.high j h, arr_getD m j hj]
            by_cases hlt2 : k + k2 < m.length
            · have cU := own_cells (E := waL) (k := 3) (fun _ => rfl) ho2 (k + k2) (by omega)
              have cV := own_cells (E := waL) (k := 3) (fun _ => rfl) ho2 (k + k2 - 1) (by omega)
              have cK := own_cells (E := waL) (k := 3) (fun _ => rfl) ho2 kk (by omega)
              rw [hhi (k + k2) (by omega) hlt2] at cU
              rw [hhi (k + k2 - 1) (by omega) (by omega)] at cV
              have hwx := wait_eq (HB1.out (k + k2) hlt2) (HB1.out (k + k2 - 1) (by omega))
              have HKu : Hid (keeps m.toArray (k + k2) = decide (m.getD (k + k2) default ≠ m.getD (k + k2 - 1) default) ∧ m.toArray[k + k2]! = m.getD (k + k2) default) := Lib.hid ⟨by
                unfold keeps
                rw [arr_getD m (k + k2) hlt2, arr_getD m (k + k2 - 1) (by omega)]
                have : ¬ k + k2 = 0 := by omega
                simp only [this, false_or], arr_getD m (k + k2) hlt2⟩
              have a0 : wr.cell? ⟨g, k * 3 + k2 * 3, none⟩ = some (.bool (decide ((m.getD (k + k2) default).h = 1))) := by have h := cU 0 _ (by decide) rfl; rw [show (k + k2) * 3 + 0 = k * 3 + k2 * 3 by omega] at h; exact h
              have a1 : wr.cell? ⟨g, k * 3 + k2 * 3 + 1, none⟩ = some (.int .i64 (m.getD (k + k2) default).k) := by have h := cU 1 _ (by decide) rfl; rw [show (k + k2) * 3 + 1 = k * 3 + k2 * 3 + 1 by omega] at h; exact h
              have a2 : wr.cell? ⟨g, k * 3 + k2 * 3 + 2, none⟩ = some (.int .i64 (m.getD (k + k2) default).d) := by have h := cU 2 _ (by decide) rfl; rw [show (k + k2) * 3 + 2 = k * 3 + k2 * 3 + 2 by omega] at h; exact h
              have b0 : wr.cell? ⟨g, k * 3 + (k2 - 1) * 3, none⟩ = some (.bool (decide ((m.getD (k + k2 - 1) default).h = 1))) := by have h := cV 0 _ (by decide) rfl; rw [show (k + k2 - 1) * 3 + 0 = k * 3 + (k2 - 1) * 3 by omega] at h; exact h
              have b1 : wr.cell? ⟨g, k * 3 + (k2 - 1) * 3 + 1, none⟩ = some (.int .i64 (m.getD (k + k2 - 1) default).k) := by have h := cV 1 _ (by decide) rfl; rw [show (k + k2 - 1) * 3 + 1 = k * 3 + (k2 - 1) * 3 + 1 by omega] at h; exact h
              have b2 : wr.cell? ⟨g, k * 3 + (k2 - 1) * 3 + 2, none⟩ = some (.int .i64 (m.getD (k + k2 - 1) default).d) := by have h := cV 2 _ (by decide) rfl; rw [show (k + k2 - 1) * 3 + 2 = k * 3 + (k2 - 1) * 3 + 2 by omega] at h; exact h
              have c0 : wr.cell? ⟨g, kk * 3, none⟩ = some _ := cK 0 _ (by decide) rfl
              have c1 : wr.cell? ⟨g, kk * 3 + 1, none⟩ = some _ := cK 1 _ (by decide) rfl
              have c2 : wr.cell? ⟨g, kk * 3 + 2, none⟩ = some _ := cK 2 _ (by decide) rfl
              have HPut := Lib.hid (fun x => own_put ho2 (k := kk) (by omega) x)
              have HL2 := Lib.hid (And.intro hlt2 (And.intro hkk (And.intro h1 hds)))
              have j0 : (0 : Int) ≤ (k2 : Int) := by omega
              have j1 : (k2 : Int) < ((m.length : Int) - (k : Int)) := by omega
              have j2 : (0 : Int) ≤ (k2 : Int) - 1 := by omega
              have j3 : (kk : Int) < (m.length : Int) := by omega
              have j4 : (0 : Int) ≤ (kk : Int) := by omega
              clear cU cV cK hget hhi ho2 hgr hI
              generalize m.getD (k + k2) default = u at *
              generalize m.getD (k + k2 - 1) default = v at *
              generalize dk.toList.getD kk default = old at *
              have heq := fun W => eq_wait (decide (u.h = 1)) (decide (v.h = 1)) u.k u.d v.k v.d W
              rw [hwx] at heq
              have HPu := Lib.hid (HPut.out u)
              generalize huc : decide (u.h = 1) = uc at *
              have HUc := Lib.hid huc
              clear huc hwx HPut
              generalize decide (v.h = 1) = vc at *
              by_cases huv : u = v
              · rw [decide_eq_true huv] at heq
                have HKn : Hid (keeps m.toArray (k + k2) = false) := Lib.hid (by rw [HKu.out.1, huv]; simp)
                clear huv HPu c0 c1 c2
                go_wp2_with fail
                go_region
                go_wp2_with fail
                go_roundg (m.length - (k + (k2 + 1)))
                case measure => have := HL2.out; omega
                case rel => exact ⟨kk, k2 + 1, dk, rfl, by go_num, by omega, by have := HL2.out; omega, Nat.le_refl _, HO2.out.grown (Below.drew (Below.refl _ _)), by have h := HGr.out; exact ⟨h.os, h.tape, h.output, h.size, h.block⟩, HI2.out.skip HKn.out⟩
              · rw [decide_eq_false huv] at heq
                have HKp : Hid (keeps m.toArray (k + k2) = true) := Lib.hid (by rw [HKu.out.1]; simp [huv])
                clear huv
                go_wp2_with fail
                go_region
                go_wp2_with fail
                go_roundg (m.length - (k + (k2 + 1)))
                case measure => have := HL2.out; omega
                case rel =>
                  refine ⟨kk + 1, k2 + 1, dk.setIfInBounds kk u, by go_num, by go_num, by omega, by have := HL2.out; omega, Nat.le_refl _, ?_, ?_, ?_⟩
                  · rw [Array.toList_setIfInBounds]
                    have h := HPu.out
                    first
                      | exact h
                      | exact h.grown (Below.drew (Below.refl _ _))
                  · have h := HGr.out
                    have s1 := grownBy_set wr g (kk * 3) (.bool uc)
                    have s2 := grownBy_set (wr.setCell ⟨g, kk * 3, none⟩ (.bool uc)) g (kk * 3 + 1) (.int .i64 u.k)
                    have s3 := grownBy_set ((wr.setCell ⟨g, kk * 3, none⟩ (.bool uc)).setCell ⟨g, kk * 3 + 1, none⟩ (.int .i64 u.k)) g (kk * 3 + 2) (.int .i64 u.d)
                    have h3 := grown3 (grown3 (grown3 h s1) s2) s3
                    exact ⟨h3.os, h3.tape, h3.output, h3.size, h3.block⟩
                  · have h := HI2.out.keep (by have := HL2.out; simp; omega) HKp.out
                    rw [HKu.out.2] at h
                    exact h
            · have hend : k + k2 = m.length := by omega
              have hn0 : 0 < m.length - kk := by omega
              have hcl : ∀ ty, (Builtin.clear_ #[34] ty #[.slice (some ⟨g, kk * 3, none⟩) (m.length - kk) (cap - kk)]).run Tryz.prog wr = .ok (.tuple #[]) (wr.setCells g (kk * 3) (Builtin.zeroCells #[.bool false, .int .i64 0, .int .i64 0] (m.length - kk)).toList) := fun ty => run_clear3 wr ty g (kk * 3) (m.length - kk) (cap - kk) hn0 (fun j hj => by
                have h := own_cells (E := waL) (k := 3) (fun _ => rfl) ho2 ((kk * 3 + j) / 3) (by omega) ((kk * 3 + j) % 3)
                have e : (kk * 3 + j) / 3 * 3 + (kk * 3 + j) % 3 = kk * 3 + j := by omega
                rw [e] at h
                rcases (show (kk * 3 + j) % 3 = 0 ∨ (kk * 3 + j) % 3 = 1 ∨ (kk * 3 + j) % 3 = 2 by omega) with e3 | e3 | e3
                · rw [h _ (by omega) (by rw [e3]; rfl)]; rfl
                · rw [h _ (by omega) (by rw [e3]; rfl)]; rfl
                · rw [h _ (by omega) (by rw [e3]; rfl)]; rfl) (fun j hj => hfr _)
              have j3 : (kk : Int) ≤ (m.length : Int) := by omega
              have j4 : (0 : Int) ≤ (kk : Int) := by omega
              have j5 : (kk : Int) ≤ (cap : Int) := by omega
              have j1 : ¬ (k2 : Int) < ((m.length : Int) - (k : Int)) := by omega
              have HTk := Lib.hid (own_take (E := waL) (k := 3) (fun _ => rfl) ho2 (j := kk) (by omega))
              have HLen : Hid ((dk.toList.take kk).length = kk) := Lib.hid (by rw [List.length_take]; omega)
              have HRes : Hid (compactUpTo m.toArray m.length = dk.toList.take kk) := Lib.hid (by
                have hI2 := HI2.out
                rw [hend] at hI2
                apply List.ext_getElem?
                intro j
                by_cases hj : j < kk
                · rw [hI2.low j hj, List.getElem?_take_of_lt hj, ← hget j (by omega)]
                  simp [List.getD_eq_getElem?_getD, show j < dk.size by simpa using (show j < dk.toList.length by omega)]
                · rw [List.getElem?_eq_none (by have := hI2.len; omega), List.getElem?_eq_none (by rw [HLen.out]; omega)])
              have hsub : (((m.length : Int) - (kk : Int)).toNat) = m.length - kk := by omega
              clear hget hhi ho2 hgr hI hfr hlt2
              go_wp2_with fail
              go_ret
              have h1 := own_sets (Builtin.zeroCells #[.bool false, .int .i64 0, .int .i64 0] (m.length - kk)).toList (kk * 3) wr (show wr.ownsRow base 46 3 (.slice (some ⟨g, 0, none⟩) kk cap) kk ((dk.toList.take kk).flatMap waL) from by have h := HTk.out; unfold OwnX at h; rw [HLen.out] at h; exact h) (by rw [flx_len (k := 3) (fun _ => rfl), HLen.out]; exact Nat.le_refl _)
              refine ⟨_, rfl, ?_, ?_⟩
              · rw [HRes.out]
                unfold OwnX
                rw [HLen.out]; exact h1.1
              · exact grown3 HGr.out h1.2
        · rw [decide_eq_false hdup] at heq
          have HKp : Hid (keeps m.toArray k = true) := Lib.hid (by rw [HK.out]; simp [hdup])
          clear hdup hwx
          go_wp2_with fail
          go_region
          go_wp2_with fail
          go_roundg (m.length - (k + 1))
          case measure => have := HI.out; omega
          case rel => exact ⟨k + 1, q + 1, by omega, HI.out.1, Nat.le_refl _, by go_num, rfl, fun j hj => by
            by_cases e : j = k
            · subst e; exact HKp.out
            · exact HAl.out j (by omega)⟩
      · have hke : k = m.length := by omega
        subst hke
        have e : compactUpTo m.toArray m.length = m := by
          have h := compactUpTo_all m.toArray m.length hall
          rw [h]
          have h3 := range_map_get m.toArray
          simpa using h3
        have HE := Lib.hid e
        have p1 : ¬ (m.length : Int) < (m.length : Int) := by omega
        clear e hall hlt hg hk hk1
        go_wp2_with fail
        go_ret
        exact ⟨_, rfl, by rw [HE.out]; exact HO.out.grown (drewN_belowR _ _), rfl, rfl, rfl, Nat.le_refl _, fun _ _ _ => rfl⟩

end Go.Proofs.YtgeneoamngfomaaGreatDoor

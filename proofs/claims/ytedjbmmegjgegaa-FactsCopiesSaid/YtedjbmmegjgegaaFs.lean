/-
  Package facts: the order of what is told: cmp.Compare, cmp.Or, inOrder's own.
-/
import Derived.Test.YtedjbmmegjgegaaFe
import Derived.Shelf.SlSortCmp.NoneTotal
import Derived.Sort.Grow
import Derived.Deep.RegionWith
import Derived.Deep.RegionHeld3
import Derived.Test.YtedjbmmegjgegaaFq
import Derived.Maps.OwnIn
namespace Go.Proofs.Ytedjbmmegjgegaa
open Go.RowKit Go.Lib Go.Maps Go.Sort Go.Shelf
set_option linter.unusedVariables false
set_option linter.unusedSimpArgs false

def cmpI (a b : Int) : Int := if a < b then -1 else if b < a then 1 else 0
def or2 (a b : Int) : Int := if a = 0 then b else a
/-- How two entries stand: by their keys, then by their days. -/
def cmpE (x y : Ent) : Int := or2 (cmpI x.1 y.1) (cmpI x.2.1 y.2.1)
set_option maxRecDepth 100000 in
theorem isnan_any (w : World) (a : Int) : Calls Try.prog 70 #[.int .i64 a] w fun e w' => e = .returned (.bool false) ∧ w' = w := by
  go_enter Try.func70, Try.ntmps70
  go_wp2_with fail
  go_ret
  exact ⟨by simp, rfl⟩
set_option maxRecDepth 100000 in
theorem compare_int (w : World) (a b : Int) : Calls Try.prog 59 #[.int .i64 a, .int .i64 b] w fun e w' => e = .returned (.int .i64 (cmpI a b)) ∧ w' = w := by
  have HN := Lib.hid (fun (w' : World) (x : Int) => isnan_any w' x)
  unfold cmpI
  by_cases h1 : a < b
  · rw [if_pos h1]
    go_enter Try.func59, Try.ntmps59
    go_wp2_with fail
    refine (HN.out _ _).mono ?_
    rintro e w1 ⟨rfl, rfl⟩
    go_wp2_with fail
    refine (HN.out _ _).mono ?_
    rintro e w1 ⟨rfl, rfl⟩
    go_wp2_with fail
    go_ret
    exact ⟨rfl, rfl⟩
  · rw [if_neg h1]
    by_cases h2 : b < a
    · rw [if_pos h2]
      go_enter Try.func59, Try.ntmps59
      go_wp2_with fail
      refine (HN.out _ _).mono ?_
      rintro e w1 ⟨rfl, rfl⟩
      go_wp2_with fail
      refine (HN.out _ _).mono ?_
      rintro e w1 ⟨rfl, rfl⟩
      go_wp2_with fail
      go_ret
      exact ⟨rfl, rfl⟩
    · rw [if_neg h2]
      go_enter Try.func59, Try.ntmps59
      go_wp2_with fail
      refine (HN.out _ _).mono ?_
      rintro e w1 ⟨rfl, rfl⟩
      go_wp2_with fail
      refine (HN.out _ _).mono ?_
      rintro e w1 ⟨rfl, rfl⟩
      go_wp2_with fail
      go_ret
      exact ⟨rfl, rfl⟩
set_option maxRecDepth 100000 in
theorem or_int (w : World) (p : Nat) (a b : Int) (h0 : w.cell? ⟨p, 0, none⟩ = some (.int .i64 a)) (h1 : w.cell? ⟨p, 1, none⟩ = some (.int .i64 b)) : Calls Try.prog 58 #[.slice (some ⟨p, 0, none⟩) 2 2] w fun e w' => e = .returned (.int .i64 (or2 a b)) ∧ w' = w := by
  unfold or2
  by_cases h : a = 0
  · rw [if_pos h]
    subst h
    by_cases h' : b = 0
    · subst h'
      go_enter Try.func58, Try.ntmps58
      go_wp2_with fail
      refine wp_loop_rounds 3 ?_
      rw [rounds_succ]
      go_wp2_with fail
      rw [rounds_succ]
      go_wp2_with fail
      rw [rounds_succ]
      go_wp2_with fail
      go_ret
      exact ⟨rfl, rfl⟩
    · have h2 : (b == 0) = false := beq_false_of_ne h'
      go_enter Try.func58, Try.ntmps58
      go_wp2_with fail
      refine wp_loop_rounds 3 ?_
      rw [rounds_succ]
      go_wp2_with fail
      rw [rounds_succ]
      go_wp2_with fail
      go_ret
      exact ⟨rfl, rfl⟩
  · rw [if_neg h]
    have h2 : (a == 0) = false := beq_false_of_ne h
    go_enter Try.func58, Try.ntmps58
    go_wp2_with fail
    refine wp_loop_rounds 3 ?_
    rw [rounds_succ]
    go_wp2_with fail
    go_ret
    exact ⟨rfl, rfl⟩

theorem or_new (W : World) (p : Nat) (a b : Int) (hp : p = W.heap.size) : Calls Try.prog 58 #[.slice (some ⟨p, 0, none⟩) 2 2] (W.alloc (.cells #[.int .i64 a, .int .i64 b] 3)).drew fun e w' => e = .returned (.int .i64 (or2 a b)) ∧ w' = (W.alloc (.cells #[.int .i64 a, .int .i64 b] 3)).drew := by
  subst hp
  refine or_int _ _ _ _ ?_ ?_
  · show (W.alloc (.cells #[.int .i64 a, .int .i64 b] 3)).cell? _ = _
    rw [World.cell?_alloc_at _ _ _ _ rfl]; rfl
  · show (W.alloc (.cells #[.int .i64 a, .int .i64 b] 3)).cell? _ = _
    rw [World.cell?_alloc_at _ _ _ _ rfl]; rfl
theorem or_new2 (W : World) (p : Nat) (a b : Int) (hp : p = W.heap.size) : Calls Try.prog 58 #[.slice (some ⟨p, 0, none⟩) 2 2] (W.drew.alloc (.cells #[.int .i64 a, .int .i64 b] 3)) fun e w' => e = .returned (.int .i64 (or2 a b)) ∧ w' = W.drew.alloc (.cells #[.int .i64 a, .int .i64 b] 3) := by
  subst hp
  refine or_int _ _ _ _ ?_ ?_
  · exact (World.cell?_alloc_at (w := W.drew) _ _ W.heap.size 0 rfl).trans rfl
  · exact (World.cell?_alloc_at (w := W.drew) _ _ W.heap.size 1 rfl).trans rfl
/-- Two boxes, one behind the other. -/
theorem two_boxes (w : World) (cs ds : Array Value) (t u : TypeId) :
    ((w.alloc (.cells cs t)).alloc (.cells ds u)).cell? ⟨w.heap.size, 0, none⟩ = cs[0]? ∧ ((w.alloc (.cells cs t)).alloc (.cells ds u)).cell? ⟨w.heap.size, 1, none⟩ = cs[1]? ∧
    ((w.alloc (.cells cs t)).alloc (.cells ds u)).cell? ⟨w.heap.size + 1, 0, none⟩ = ds[0]? ∧ ((w.alloc (.cells cs t)).alloc (.cells ds u)).cell? ⟨w.heap.size + 1, 1, none⟩ = ds[1]? := by
  refine ⟨?_, ?_, ?_, ?_⟩
  · exact (World.cell?_alloc_past _ _ _ (by simp)).trans (World.cell?_alloc_at _ _ _ _ rfl)
  · exact (World.cell?_alloc_past _ _ _ (by simp)).trans (World.cell?_alloc_at _ _ _ _ rfl)
  · rw [World.cell?_alloc_at _ _ _ _ (by simp)]
  · rw [World.cell?_alloc_at _ _ _ _ (by simp)]
set_option maxRecDepth 100000 in
set_option maxHeartbeats 2000000 in
theorem inorder1_r (w : World) (a b c d x y z t : Int) : Calls Try.prog 57 #[.agg #[.int .i64 a, .int .i64 b, .int .i64 c, .int .i64 d], .agg #[.int .i64 x, .int .i64 y, .int .i64 z, .int .i64 t]] w fun e w' => e = .returned (.int .i64 (or2 (cmpI a x) (cmpI b y))) ∧ ∃ q os', w' = grow (w.drewN q) os' := by
  have HC := fun (w' : World) (x y : Int) => compare_int w' x y
  have hbw := onF (newF w (.cells #[.int .i64 a, .int .i64 b, .int .i64 c, .int .i64 d] 92)) (newF (w.alloc (.cells #[.int .i64 a, .int .i64 b, .int .i64 c, .int .i64 d] 92)) (.cells #[.int .i64 x, .int .i64 y, .int .i64 z, .int .i64 t] 92))
  obtain ⟨a0, a1, x0, x1⟩ := two_boxes w #[.int .i64 a, .int .i64 b, .int .i64 c, .int .i64 d] #[.int .i64 x, .int .i64 y, .int .i64 z, .int .i64 t] 92 92
  have hg : ∃ os, (w.alloc (.cells #[.int .i64 a, .int .i64 b, .int .i64 c, .int .i64 d] 92)).alloc (.cells #[.int .i64 x, .int .i64 y, .int .i64 z, .int .i64 t] 92) = grow w os := ⟨_, by rw [alloc_eq_grow, alloc_eq_grow, grow_grow]⟩
  have hsz : ((w.alloc (.cells #[.int .i64 a, .int .i64 b, .int .i64 c, .int .i64 d] 92)).alloc (.cells #[.int .i64 x, .int .i64 y, .int .i64 z, .int .i64 t] 92)).heap.size = w.heap.size + 1 + 1 := by simp
  change _ = some (Value.int .i64 a) at a0
  change _ = some (Value.int .i64 b) at a1
  change _ = some (Value.int .i64 x) at x0
  change _ = some (Value.int .i64 y) at x1
  have HG := Lib.hid hg
  have HZ := Lib.hid hsz
  clear hbw hg hsz
  go_enter Try.func57, Try.ntmps57
  go_wp2_with fail
  generalize (w.alloc (.cells #[.int .i64 a, .int .i64 b, .int .i64 c, .int .i64 d] 92)).alloc (.cells #[.int .i64 x, .int .i64 y, .int .i64 z, .int .i64 t] 92) = W2 at *
  go_region_held3 (fun w' => w'.cell? ⟨w.heap.size, 0, none⟩ = some (.int .i64 a) ∧ w'.cell? ⟨w.heap.size, 1, none⟩ = some (.int .i64 b) ∧ w'.cell? ⟨w.heap.size + 1, 0, none⟩ = some (.int .i64 x) ∧ w'.cell? ⟨w.heap.size + 1, 1, none⟩ = some (.int .i64 y)) (first | (with_reducible exact ⟨a0, a1, x0, x1⟩) | go_keep)
    (first
    | (go_at_call 59; (with_reducible refine (HC _ _ _).mono ?_); rintro e w' ⟨rfl, rfl⟩)
    | (go_at_call 58; refine (or_new _ _ _ _ rfl).mono ?_; rintro e w' ⟨rfl, rfl⟩)
    | (go_at_call 58; refine (or_new2 _ _ _ _ rfl).mono ?_; rintro e w' ⟨rfl, rfl⟩))
  go_wp2_with fail
  go_ret
  obtain ⟨os, hos⟩ := HG.out
  subst hos
  exact ⟨rfl, 1, _, by rw [alloc_eq_grow, grow_grow]; rfl⟩
set_option maxRecDepth 100000 in
set_option maxHeartbeats 2000000 in
theorem inorder1_i (w : World) (a b c x y z : Int) : Calls Try.prog 61 #[.agg #[.int .i64 a, .int .i64 b, .int .i64 c], .agg #[.int .i64 x, .int .i64 y, .int .i64 z]] w fun e w' => e = .returned (.int .i64 (or2 (cmpI a x) (cmpI b y))) ∧ ∃ q os', w' = grow (w.drewN q) os' := by
  have HC := fun (w' : World) (x y : Int) => compare_int w' x y
  have hbw := onF (newF w (.cells #[.int .i64 a, .int .i64 b, .int .i64 c] 87)) (newF (w.alloc (.cells #[.int .i64 a, .int .i64 b, .int .i64 c] 87)) (.cells #[.int .i64 x, .int .i64 y, .int .i64 z] 87))
  obtain ⟨a0, a1, x0, x1⟩ := two_boxes w #[.int .i64 a, .int .i64 b, .int .i64 c] #[.int .i64 x, .int .i64 y, .int .i64 z] 87 87
  have hg : ∃ os, (w.alloc (.cells #[.int .i64 a, .int .i64 b, .int .i64 c] 87)).alloc (.cells #[.int .i64 x, .int .i64 y, .int .i64 z] 87) = grow w os := ⟨_, by rw [alloc_eq_grow, alloc_eq_grow, grow_grow]⟩
  have hsz : ((w.alloc (.cells #[.int .i64 a, .int .i64 b, .int .i64 c] 87)).alloc (.cells #[.int .i64 x, .int .i64 y, .int .i64 z] 87)).heap.size = w.heap.size + 1 + 1 := by simp
  change _ = some (Value.int .i64 a) at a0
  change _ = some (Value.int .i64 b) at a1
  change _ = some (Value.int .i64 x) at x0
  change _ = some (Value.int .i64 y) at x1
  have HG := Lib.hid hg
  have HZ := Lib.hid hsz
  clear hbw hg hsz
  go_enter Try.func61, Try.ntmps61
  go_wp2_with fail
  generalize (w.alloc (.cells #[.int .i64 a, .int .i64 b, .int .i64 c] 87)).alloc (.cells #[.int .i64 x, .int .i64 y, .int .i64 z] 87) = W2 at *
  go_region_held3 (fun w' => w'.cell? ⟨w.heap.size, 0, none⟩ = some (.int .i64 a) ∧ w'.cell? ⟨w.heap.size, 1, none⟩ = some (.int .i64 b) ∧ w'.cell? ⟨w.heap.size + 1, 0, none⟩ = some (.int .i64 x) ∧ w'.cell? ⟨w.heap.size + 1, 1, none⟩ = some (.int .i64 y)) (first | (with_reducible exact ⟨a0, a1, x0, x1⟩) | go_keep)
    (first
    | (go_at_call 59; (with_reducible refine (HC _ _ _).mono ?_); rintro e w' ⟨rfl, rfl⟩)
    | (go_at_call 58; refine (or_new _ _ _ _ rfl).mono ?_; rintro e w' ⟨rfl, rfl⟩)
    | (go_at_call 58; refine (or_new2 _ _ _ _ rfl).mono ?_; rintro e w' ⟨rfl, rfl⟩))
  go_wp2_with fail
  go_ret
  obtain ⟨os, hos⟩ := HG.out
  subst hos
  exact ⟨rfl, 1, _, by rw [alloc_eq_grow, grow_grow]; rfl⟩

end Go.Proofs.Ytedjbmmegjgegaa

namespace Go.Proofs.Ytedjbmmegjgegaa
open Go.RowKit Go.Lib Go.Maps Go.Sort Go.Shelf
set_option linter.unusedVariables false
set_option linter.unusedSimpArgs false

def cfT (x y : Fct) : Int := or2 (cmpI x.k y.k) (cmpI x.d y.d)
theorem cfT_neg (x y : Fct) : cfT x y < 0 ↔ befT x y := by
  unfold cfT or2 cmpI befT
  by_cases h1 : x.k < y.k
  · simp [h1]
  · by_cases h2 : y.k < x.k
    · have : ¬ x.k = y.k := by omega
      simp [h1, h2, this]
    · have h3 : x.k = y.k := by omega
      simp [h3]
      by_cases h4 : x.d < y.d
      · simp [h4]
      · by_cases h5 : y.d < x.d <;> simp [h4, h5]
theorem lt_cfT (x y : Fct) : ltOf cfT x y = true ↔ befT x y := by
  unfold ltOf
  rw [decide_eq_true_iff]
  exact cfT_neg x y
theorem lt_cfT' (x y : Fct) : ltOf cfT x y = false ↔ ¬ befT x y := by
  rw [← lt_cfT]; simp
theorem swo_cfT : SWO (ltOf cfT) where
  irrefl x := by rw [lt_cfT']; unfold befT; omega
  trans x y z h1 h2 := by rw [lt_cfT] at *; unfold befT at *; omega
  ntrans x y z h1 h2 := by rw [lt_cfT'] at *; unfold befT at *; omega
/-- A place. -/
def plT (t : Fct) : Int × Int := (t.k, t.d)
theorem srt_nd {l : List Fct} (h : Srt l) : (l.map plT).Nodup := by
  rw [List.nodup_iff_pairwise_ne, List.pairwise_map]
  refine h.imp ?_
  intro a b hab e
  unfold befT at hab
  unfold plT at e
  injection e with e1 e2
  omega
/-- Sorted, and the places differ. -/
theorem sorted_srt {d d' : Array Fct} (hp : PermIn 0 d.size d d') (hs : SortedIn (ltOf cfT) 0 d.size d') (hn : (d.toList.map plT).Nodup) : Srt d'.toList ∧ d'.toList.Perm d.toList := by
  obtain ⟨hz, _, hP⟩ := hp
  have e1 : (d'.extract 0 d.size).toList = d'.toList := by rw [← hz]; simp
  have e2 : (d.extract 0 d.size).toList = d.toList := by simp
  rw [e1, e2] at hP
  refine ⟨?_, hP⟩
  have hn' : (d'.toList.map plT).Nodup := (hP.map plT).nodup_iff.2 hn
  unfold Srt
  rw [List.pairwise_iff_getElem]
  intro i j hi hj hij
  rw [List.nodup_iff_pairwise_ne, List.pairwise_map, List.pairwise_iff_getElem] at hn'
  have hne := hn' i j hi hj hij
  have hj' : j < d'.size := by simpa using hj
  have hi' : i < d'.size := by omega
  have := hs i j (Nat.zero_le _) hij (by omega)
  rw [getElem!_pos d' j hj', getElem!_pos d' i hi', lt_cfT'] at this
  simp only [Array.getElem_toList] at hne ⊢
  generalize d'[i] = x at *
  generalize d'[j] = y at *
  unfold befT at this ⊢
  unfold plT at hne
  by_cases hk : x.k = y.k
  · by_cases hd : x.d = y.d
    · exact absurd (by rw [hk, hd]) hne
    · omega
  · omega
/-- Two sorted lists with the same members are one. -/
theorem srt_ext : ∀ {l m : List Fct}, Srt l → Srt m → (∀ t, t ∈ l ↔ t ∈ m) → l = m
  | [], [], _, _, _ => rfl
  | [], y :: m, _, _, h => by have := (h y).2 (by simp); cases this
  | x :: l, [], _, _, h => by have := (h x).1 (by simp); cases this
  | x :: l, y :: m, hl, hm, h => by
    have hl' := List.pairwise_cons.1 hl
    have hm' := List.pairwise_cons.1 hm
    have irr : ∀ a : Fct, ¬ befT a a := fun a ha => by unfold befT at ha; omega
    have e : x = y := by
      rcases List.mem_cons.1 ((h x).1 (by simp)) with e | h1
      · exact e
      · rcases List.mem_cons.1 ((h y).2 (by simp)) with e | h2
        · exact e.symm
        · have a1 := hm'.1 x h1
          have a2 := hl'.1 y h2
          unfold befT at a1 a2
          omega
    subst e
    refine congrArg (x :: ·) (srt_ext hl'.2 hm'.2 fun t => ⟨fun ht => ?_, fun ht => ?_⟩)
    · rcases List.mem_cons.1 ((h t).1 (by simp [ht])) with e | h1
      · subst e; exact absurd (hl'.1 t ht) (irr t)
      · exact h1
    · rcases List.mem_cons.1 ((h t).2 (by simp [ht])) with e | h1
      · subst e; exact absurd (hm'.1 t ht) (irr t)
      · exact h1

/-- The facts that have come out of a map; which are left. -/
structure CameV (V : Fct → DataW Unit) (N : Fct → Prop) (D : DataW Unit) (left : Lit → Bool) (ps : List Fct) : Prop where
  ok : ∀ t ∈ ps, I64 t.k ∧ I64 t.d ∧ N t
  val : ∀ t ∈ ps, ∀ zd, D.atKey (plk t.k t.d) zd = V t
  gone : ∀ t ∈ ps, left (plk t.k t.d) = false
  nd : (ps.map plT).Nodup
  all : ∀ kl, Maps.has D kl = true → left kl = true ∨ ∃ t ∈ ps, plk t.k t.d = kl
theorem CameV.start (V : Fct → DataW Unit) (N : Fct → Prop) (D : DataW Unit) : CameV V N D (Maps.has D) [] := ⟨fun t h => (by cases h), fun t h => (by cases h), fun t h => (by cases h), List.nodup_nil, fun kl h => .inl h⟩
theorem CameV.step {V : Fct → DataW Unit} {N : Fct → Prop} {D : DataW Unit} {left : Lit → Bool} {ps : List Fct} (h : CameV V N D left ps) {t : Fct} (hok : I64 t.k ∧ I64 t.d ∧ N t) (hl : left (plk t.k t.d) = true) (hv : ∀ zd, D.atKey (plk t.k t.d) zd = V t) : CameV V N D (fun z => left z && !z.sameKey (plk t.k t.d)) (ps ++ [t]) := by
  refine ⟨fun u hu => ?_, fun u hu => ?_, fun u hu => ?_, ?_, fun kl hk => ?_⟩
  · rcases List.mem_append.1 hu with hu | hu
    · exact h.ok u hu
    · rw [List.mem_singleton.1 hu]; exact hok
  · rcases List.mem_append.1 hu with hu | hu
    · exact h.val u hu
    · rw [List.mem_singleton.1 hu]; exact hv
  · rcases List.mem_append.1 hu with hu | hu
    · rw [h.gone u hu]; rfl
    · rw [List.mem_singleton.1 hu]
      have hs : (plk t.k t.d).sameKey (plk t.k t.d) = true := WideAt.sameKey_self (plk_ok hok.1 hok.2.1)
      rw [hs]; simp
  · rw [List.map_append, List.nodup_append]
    refine ⟨h.nd, by simp, fun a ha b hb => ?_⟩
    obtain ⟨u, hu, rfl⟩ := List.mem_map.1 ha
    rw [List.map_singleton, List.mem_singleton] at hb
    intro e
    rw [hb] at e
    unfold plT at e
    injection e with e1 e2
    have := h.gone u hu
    rw [e1, e2, hl] at this
    cases this
  · rcases h.all kl hk with h1 | ⟨u, hu, e⟩
    · cases hs : kl.sameKey (plk t.k t.d) with
      | true => exact .inr ⟨t, by simp, (WideAt.sameKey_eq hs).symm⟩
      | false => exact .inl (by rw [h1]; rfl)
    · exact .inr ⟨u, by simp [hu], e⟩
/-- All have come. -/
def AllV (V : Fct → DataW Unit) (N : Fct → Prop) (D : DataW Unit) (ps : List Fct) : Prop := CameV V N D (fun _ => false) ps ∧ ps.length ≤ Maps.size D
theorem CameV.done {V : Fct → DataW Unit} {N : Fct → Prop} {D : DataW Unit} {left : Lit → Bool} {ps : List Fct} (h : CameV V N D left ps) (hl : ∀ kl, left kl = false) (hz : ps.length ≤ Maps.size D) : AllV V N D ps := by
  have e : left = fun _ => false := funext hl
  unfold AllV; rw [← e]; exact ⟨h, hz⟩
/-- What is sorted of all that came is the contract's list. -/
theorem all_is {V : Fct → DataW Unit} {N : Fct → Prop} (hV : ∀ t u, N t → N u → t.k = u.k → t.d = u.d → V t = V u → t = u) {D : DataW Unit} {ps l : List Fct} (ha : AllV V N D ps) (hr : RelV V D l) (hN : ∀ t ∈ l, N t) {m : List Fct} (hm : Srt m) (hp : m.Perm ps) : m = l := by
  refine srt_ext hm hr.srt fun t => ?_
  rw [hp.mem_iff]
  refine ⟨fun ht => ?_, fun ht => ?_⟩
  · obtain ⟨a1, a2, a3⟩ := ha.1.ok t ht
    have hh : Maps.has D (plk t.k t.d) = true := has_true_of_atKey (ha.1.val t ht)
    obtain ⟨u, hu, e1, e2⟩ := hr.all _ _ a1 a2 hh
    have hv := (hr.val u hu).2 (intD 0)
    rw [e1, e2, ha.1.val t ht (intD 0)] at hv
    rw [hV t u a3 (hN u hu) e1.symm e2.symm hv]
    exact hu
  · obtain ⟨b1, b2⟩ := hr.ok t ht
    obtain ⟨hh, hv⟩ := hr.val t ht
    rcases ha.1.all _ hh with e | ⟨u, hu, e⟩
    · cases e
    · obtain ⟨c1, c2, c3⟩ := ha.1.ok u hu
      obtain ⟨e1, e2⟩ := plk_inj c1 c2 b1 b2 e
      have hw := ha.1.val u hu (intD 0)
      rw [e, hv (intD 0)] at hw
      rw [hV t u (hN t ht) c3 e1.symm e2.symm hw]
      exact hu

end Go.Proofs.Ytedjbmmegjgegaa

namespace Go.Proofs.Ytedjbmmegjgegaa
open Go.RowKit Go.Lib Go.Maps Go.Sort Go.Shelf
set_option linter.unusedVariables false
set_option linter.unusedSimpArgs false
attribute [local go_sem] Oper.semAt_some

/-- A fact of either kind, as the program has it. -/
def rtL (t : Fct) : List Value := [.int .i64 t.k, .int .i64 t.d, .int .i64 t.x, .int .i64 t.y]
def chL (t : Fct) : List Value := [.int .i64 t.k, .int .i64 t.d, .int .i64 t.p]
def nR (t : Fct) : Prop := t.p = 0
def nI (t : Fct) : Prop := t.x = 0 ∧ t.y = 0
set_option maxRecDepth 100000 in
set_option maxHeartbeats 2000000 in
theorem allvr_in (F : Fence) (n : Nat) (hF : F = Fence.wide) (hn : 1 ≤ n) (l Bm b nn : Nat) (D : DataW Unit) (J Jx : List Fct → World → Prop)
    (hY : ∀ pre x W, J pre W → pre.length < Maps.size D → YieldAt F (n - 1) Try.prog l #[.agg (rtL x).toArray] W fun e W' =>
      (e = .returned (.bool true) ∧ J (pre ++ [x]) W' ∧ KeepsWalks W W') ∨ (e = .returned (.bool false) ∧ Jx (pre ++ [x]) W'))
    (W : World) (hJ : AbidesFrom W.heap.size J) (hm : W.cell? ⟨Bm, 0, none⟩ = some (.map (some b))) (hown : W.ownsMap Try.prog 85 ratElem b nn D) (h0 : J [] W) :
    CallsIn F n Try.prog 69 #[.func (.yield l) #[] #[], .pointer (some ⟨Bm, 0, none⟩)] W fun e W' => (∃ v, e = .returned v) ∧
      ((∃ ps, AllV vR nR D ps ∧ J ps W') ∨ (∃ pre, (∃ left, CameV vR nR D left pre) ∧ Jx pre W')) := by
  subst hF
  refine callsIn_of_wp Try.func69 rfl trivial ?_ rfl
  simp only [Try.ntmps69, List.size_toArray, List.length_cons, List.length_nil, Nat.reduceAdd, Nat.reduceSub, Array.replicate_succ, Array.replicate_zero, List.push_toArray, List.append_toArray, List.nil_append, List.cons_append]
  gi_wp2_with (first
    | (gi_at_range; refine wpListIn_range_own _ rfl _ 72 rfl 85 29 plc_law Try.underlying72 _ b nn _ rfl hown ?_; intro w0 hrg0 hg0 hs0)
    | gi_in)
  go_frame
  gi_loopw [3, 4] (fun _ _ wr => ∃ (left : Lit → Bool) (cnt : Nat) (ps : List Fct), wr.ranges Try.prog 85 ratElem b W.heap.size nn D left cnt ∧ ps.length + cnt ≤ Maps.size D ∧ CameV vR nR D left ps ∧ J ps wr ∧ W.heap.size ≤ wr.heap.size)
    (fun _ _ wr => wr.rangeLeft b W.heap.size)
  case atStart =>
    exact ⟨_, _, [], hrg0, by simp, CameV.start vR nR D, hJ [] W w0 none h0 hg0 (fun r e => by cases e), hg0.size⟩
  case round =>
    obtain ⟨left, cnt, ps, hrg, hcs, hC, hJs, hsz⟩ := hrel
    gi_wp2_with (first
      | (gi_at_next; refine wpListIn_next_ranges _ rfl _ rfl 85 plc_law ratElem (fun x : Int × Int => plv x.1 x.2) (fun c : Int × Int => .agg #[.int .i64 c.1, .int .i64 c.2]) (fun key kl hk => by obtain ⟨x, hx, _⟩ := plc_inv hk; exact ⟨x, hx⟩) (fun v y hv => by obtain ⟨y1, y2⟩ := y; obtain ⟨c, d, rfl, _⟩ := ratElem_inv hv; exact ⟨(c, d), rfl⟩) b W.heap.size nn _ _ _ rfl hrg ?_ ?_)
      | gi_in)
    · intro hc0 hl0
      gi_wp2
      go_end0
      exact ⟨⟨_, rfl⟩, .inl ⟨ps, hC.done hl0 (by omega), hJs⟩⟩
    · intro ka kd vn vd kl yd yp w2 cnt2 hkey hlk hv hat hrg2 hlt hg2 hs2 hen
      obtain ⟨x, ex, hx1, hx2, rfl⟩ := plc_inv hkey
      obtain ⟨rfl, rfl⟩ : ka = x.1 ∧ kd = x.2 := by unfold plv at ex; simpa using ex
      obtain ⟨n', d', ec, ez⟩ := ratElem_inv hv
      obtain ⟨rfl, rfl⟩ : vn = n' ∧ vd = d' := by simpa using ec
      subst ez
      obtain ⟨ka, kd⟩ := x
      dsimp only at *
      have hJ2 : J ps w2 := hJ ps wr w2 (some W.heap.size) hJs hg2 (fun r e => by cases e; exact ⟨Nat.le_refl _, hrg.iter_walk⟩)
      have hJ3 : J ps (w2.alloc (.cells #[.int .i64 ka, .int .i64 kd] 85)) := hJ ps w2 _ none hJ2 (World.grownBy_alloc _ _ none) (fun r e => by cases e)
      have hJ4 : J ps ((w2.alloc (.cells #[.int .i64 ka, .int .i64 kd] 85)).alloc (.cells #[.int .i64 vn, .int .i64 vd] 29)) := hJ ps _ _ none hJ3 (World.grownBy_alloc _ _ none) (fun r e => by cases e)
      have hrg3 := (hrg2.alloc (.cells #[.int .i64 ka, .int .i64 kd] 85)).alloc (.cells #[.int .i64 vn, .int .i64 vd] 29)
      obtain ⟨fn, tmps, assign, body, hy, hR⟩ := hY ps ⟨ka, kd, vn, vd, 0⟩ _ hJ4 (by omega)
      have HC2 := Lib.hid (hC.step (t := ⟨ka, kd, vn, vd, 0⟩) ⟨hx1, hx2, rfl⟩ hlk hat)
      have HSz : Hid (W.heap.size ≤ ((w2.alloc (.cells #[.int .i64 ka, .int .i64 kd] 85)).alloc (.cells #[.int .i64 vn, .int .i64 vd] 29)).heap.size) := Lib.hid (by have := hg2.size; simp; omega)
      have HL := Lib.hid hlt
      have HRg := Lib.hid hrg3
      have HRo := Lib.hid hrg
      dsimp only [rtL] at hy
      clear hs2 hkey hv ec ex hat hlk hJ2 hJ3 hJ4 hJs hC hg2 hrg2 hrg3
      unfold plv at hen ⊢
      gi_wp2
      refine hR.mono ?_
      rintro e W3 (⟨rfl, hJ3, hk3⟩ | ⟨rfl, hJx3⟩)
      · have HRg3 := Lib.hid (HRg.out.of_walks hk3)
        have HJ3 := Lib.hid hJ3
        have HSz3 : Hid (W.heap.size ≤ W3.heap.size) := Lib.hid (Nat.le_trans HSz.out hk3.size)
        clear hJ3 hk3 hR hy hen
        gi_wp2
        go_roundw
        case rel => exact ⟨_, cnt2, ps ++ [⟨ka, kd, vn, vd, 0⟩], HRg3.out, by have := HL.out; simp; omega, HC2.out, HJ3.out, HSz3.out⟩
        case measure => rw [HRg3.out.left_eq, HRo.out.left_eq]; exact HL.out
      · have HX := Lib.hid hJx3
        clear hJx3 hR hy hen
        gi_wp2
        refine bodyPost_ret (results_none rfl _ _ _) rfl ?_
        exact ⟨⟨_, rfl⟩, .inr ⟨ps ++ [⟨ka, kd, vn, vd, 0⟩], ⟨_, HC2.out⟩, HX.out⟩⟩
set_option maxRecDepth 100000 in
set_option maxHeartbeats 2000000 in
theorem allvi_in (F : Fence) (n : Nat) (hF : F = Fence.wide) (hn : 1 ≤ n) (l Bm b nn : Nat) (D : DataW Unit) (J Jx : List Fct → World → Prop)
    (hY : ∀ pre x W, J pre W → pre.length < Maps.size D → YieldAt F (n - 1) Try.prog l #[.agg (chL x).toArray] W fun e W' =>
      (e = .returned (.bool true) ∧ J (pre ++ [x]) W' ∧ KeepsWalks W W') ∨ (e = .returned (.bool false) ∧ Jx (pre ++ [x]) W'))
    (W : World) (hJ : AbidesFrom W.heap.size J) (hm : W.cell? ⟨Bm, 0, none⟩ = some (.map (some b))) (hown : W.ownsMap Try.prog 85 intElem b nn D) (h0 : J [] W) :
    CallsIn F n Try.prog 44 #[.func (.yield l) #[] #[], .pointer (some ⟨Bm, 0, none⟩)] W fun e W' => (∃ v, e = .returned v) ∧
      ((∃ ps, AllV vI nI D ps ∧ J ps W') ∨ (∃ pre, (∃ left, CameV vI nI D left pre) ∧ Jx pre W')) := by
  subst hF
  refine callsIn_of_wp Try.func44 rfl trivial ?_ rfl
  simp only [Try.ntmps44, List.size_toArray, List.length_cons, List.length_nil, Nat.reduceAdd, Nat.reduceSub, Array.replicate_succ, Array.replicate_zero, List.push_toArray, List.append_toArray, List.nil_append, List.cons_append]
  gi_wp2_with (first
    | (gi_at_range; refine wpListIn_range_own _ rfl _ 74 rfl 85 3 plc_law Try.underlying74 _ b nn _ rfl hown ?_; intro w0 hrg0 hg0 hs0)
    | gi_in)
  go_frame
  gi_loopw [3, 4] (fun _ _ wr => ∃ (left : Lit → Bool) (cnt : Nat) (ps : List Fct), wr.ranges Try.prog 85 intElem b W.heap.size nn D left cnt ∧ ps.length + cnt ≤ Maps.size D ∧ CameV vI nI D left ps ∧ J ps wr ∧ W.heap.size ≤ wr.heap.size)
    (fun _ _ wr => wr.rangeLeft b W.heap.size)
  case atStart =>
    exact ⟨_, _, [], hrg0, by simp, CameV.start vI nI D, hJ [] W w0 none h0 hg0 (fun r e => by cases e), hg0.size⟩
  case round =>
    obtain ⟨left, cnt, ps, hrg, hcs, hC, hJs, hsz⟩ := hrel
    gi_wp2_with (first
      | (gi_at_next; refine wpListIn_next_ranges _ rfl _ rfl 85 plc_law intElem (fun x : Int × Int => plv x.1 x.2) (Value.int .i64) (fun key kl hk => by obtain ⟨x, hx, _⟩ := plc_inv hk; exact ⟨x, hx⟩) (fun v y hv => by obtain ⟨c, rfl, _⟩ := plainElem_int_inv Try.underlying3 hv; exact ⟨c, rfl⟩) b W.heap.size nn _ _ _ rfl hrg ?_ ?_)
      | gi_in)
    · intro hc0 hl0
      gi_wp2
      go_end0
      exact ⟨⟨_, rfl⟩, .inl ⟨ps, hC.done hl0 (by omega), hJs⟩⟩
    · intro ka kd c kl yd yp w2 cnt2 hkey hlk hv hat hrg2 hlt hg2 hs2 hen
      obtain ⟨x, ex, hx1, hx2, rfl⟩ := plc_inv hkey
      obtain ⟨rfl, rfl⟩ : ka = x.1 ∧ kd = x.2 := by unfold plv at ex; simpa using ex
      obtain ⟨c', ec, ez, hwc⟩ := plainElem_int_inv Try.underlying3 hv
      obtain rfl : c = c' := by simpa using ec
      obtain rfl : yd = .lit (.int .i64 c) := (Prod.mk.inj ez).1
      obtain ⟨ka, kd⟩ := x
      dsimp only at *
      have hJ2 : J ps w2 := hJ ps wr w2 (some W.heap.size) hJs hg2 (fun r e => by cases e; exact ⟨Nat.le_refl _, hrg.iter_walk⟩)
      have hJ3 : J ps (w2.alloc (.cells #[.int .i64 ka, .int .i64 kd] 85)) := hJ ps w2 _ none hJ2 (World.grownBy_alloc _ _ none) (fun r e => by cases e)
      have hrg3 := hrg2.alloc (.cells #[.int .i64 ka, .int .i64 kd] 85)
      obtain ⟨fn, tmps, assign, body, hy, hR⟩ := hY ps ⟨ka, kd, 0, 0, c⟩ _ hJ3 (by omega)
      have HC2 := Lib.hid (hC.step (t := ⟨ka, kd, 0, 0, c⟩) ⟨hx1, hx2, rfl, rfl⟩ hlk hat)
      have HSz : Hid (W.heap.size ≤ (w2.alloc (.cells #[.int .i64 ka, .int .i64 kd] 85)).heap.size) := Lib.hid (by have := hg2.size; simp; omega)
      have HL := Lib.hid hlt
      have HRg := Lib.hid hrg3
      have HRo := Lib.hid hrg
      dsimp only [chL] at hy
      clear hs2 hkey hv ez ec ex hat hlk hJ2 hJ3 hJs hC hg2 hrg2 hrg3
      unfold plv at hen ⊢
      gi_wp2
      refine hR.mono ?_
      rintro e W3 (⟨rfl, hJ3, hk3⟩ | ⟨rfl, hJx3⟩)
      · have HRg3 := Lib.hid (HRg.out.of_walks hk3)
        have HJ3 := Lib.hid hJ3
        have HSz3 : Hid (W.heap.size ≤ W3.heap.size) := Lib.hid (Nat.le_trans HSz.out hk3.size)
        clear hJ3 hk3 hR hy hen
        gi_wp2
        go_roundw
        case rel => exact ⟨_, cnt2, ps ++ [⟨ka, kd, 0, 0, c⟩], HRg3.out, by have := HL.out; simp; omega, HC2.out, HJ3.out, HSz3.out⟩
        case measure => rw [HRg3.out.left_eq, HRo.out.left_eq]; exact HL.out
      · have HX := Lib.hid hJx3
        clear hJx3 hR hy hen
        gi_wp2
        refine bodyPost_ret (results_none rfl _ _ _) rfl ?_
        exact ⟨⟨_, rfl⟩, .inr ⟨ps ++ [⟨ka, kd, 0, 0, c⟩], ⟨_, HC2.out⟩, HX.out⟩⟩

theorem allvr_stops (n : Nat) (hn : 1 ≤ n) (Bm b nn : Nat) (D : DataW Unit) (w : World) (hm : w.cell? ⟨Bm, 0, none⟩ = some (.map (some b))) (hown : w.ownsMap Try.prog 85 ratElem b nn D) :
    SeqStopsA Fence.wide n Try.prog 69 #[.pointer (some ⟨Bm, 0, none⟩)] (fun x => #[.agg (rtL x).toArray]) (AllV vR nR D) (fun pre => ∃ left, CameV vR nR D left pre) (Maps.size D) w := fun l J Jx W hW hJ _ hY h0 =>
  allvr_in Fence.wide n rfl hn l Bm b nn D J Jx hY W hJ (keepF hW hm) (hown.kept (grown_below hW) (by simp)) h0
theorem allvi_stops (n : Nat) (hn : 1 ≤ n) (Bm b nn : Nat) (D : DataW Unit) (w : World) (hm : w.cell? ⟨Bm, 0, none⟩ = some (.map (some b))) (hown : w.ownsMap Try.prog 85 intElem b nn D) :
    SeqStopsA Fence.wide n Try.prog 44 #[.pointer (some ⟨Bm, 0, none⟩)] (fun x => #[.agg (chL x).toArray]) (AllV vI nI D) (fun pre => ∃ left, CameV vI nI D left pre) (Maps.size D) w := fun l J Jx W hW hJ _ hY h0 =>
  allvi_in Fence.wide n rfl hn l Bm b nn D J Jx hY W hJ (keepF hW hm) (hown.kept (grown_below hW) (by simp)) h0

end Go.Proofs.Ytedjbmmegjgegaa

namespace Go.Proofs.Ytedjbmmegjgegaa
open Go.RowKit Go.Lib Go.Maps Go.Sort Go.Shelf
set_option linter.unusedVariables false
set_option linter.unusedSimpArgs false

theorem plF_n (L : List Tol) : ∀ (a : List Fct), (∀ t ∈ a, nR t) → ∀ t ∈ L.foldl (fun a t => if t.c = true then a else if tolE t = 0 then putL a ⟨t.k, t.d, t.x, t.y, 0⟩ else a) a, nR t := by
  induction L with
  | nil => exact fun a h => h
  | cons x L ih =>
    intro a h
    rw [List.foldl_cons]
    refine ih _ ?_
    split
    · exact h
    · split
      · intro t ht
        rcases mem_put.1 ht with rfl | ⟨ht, _⟩
        · rfl
        · exact h t ht
      · exact h
theorem plC_n (L : List Tol) : ∀ (a : List Fct), (∀ t ∈ a, nI t) → ∀ t ∈ L.foldl (fun a t => if t.c = true then (if tolE t = 0 then putL a ⟨t.k, t.d, 0, 0, t.p⟩ else a) else a) a, nI t := by
  induction L with
  | nil => exact fun a h => h
  | cons x L ih =>
    intro a h
    rw [List.foldl_cons]
    refine ih _ ?_
    split
    · split
      · intro t ht
        rcases mem_put.1 ht with rfl | ⟨ht, _⟩
        · exact ⟨rfl, rfl⟩
        · exact h t ht
      · exact h
    · exact h
theorem one_R (t u : Fct) (h : nR t) (h' : nR u) (e1 : t.k = u.k) (e2 : t.d = u.d) (e : vR t = vR u) : t = u := by
  obtain ⟨a, b, c, d, p⟩ := t
  obtain ⟨a', b', c', d', p'⟩ := u
  unfold nR at h h'
  dsimp only at *
  obtain ⟨e3, e4⟩ := ratD_inj e
  dsimp only at e3 e4
  rw [e1, e2, e3, e4, h, h']
theorem one_I (t u : Fct) (h : nI t) (h' : nI u) (e1 : t.k = u.k) (e2 : t.d = u.d) (e : vI t = vI u) : t = u := by
  obtain ⟨a, b, c, d, p⟩ := t
  obtain ⟨a', b', c', d', p'⟩ := u
  unfold nI at h h'
  dsimp only at *
  have e3 := intD_inj e
  dsimp only at e3
  rw [e1, e2, e3, h.1, h.2, h'.1, h'.2]
/-- What the fixings list, sorted, is the contract's. -/
theorem listed_F (L : List Tol) (hok : ∀ j, j < L.length → (L.getD j default).Ok) {m ps : List Fct} (hm : Srt m) (hp : m.Perm ps) (ha : AllV vR nR (mkF L) ps) : m = plF L := by
  have hrel := rel_made L L.length (Nat.le_refl _) hok
  rw [List.take_length] at hrel
  exact all_is one_R ha hrel.1 (plF_n L [] (fun t h => by cases h)) hm hp
theorem listed_C (L : List Tol) (hok : ∀ j, j < L.length → (L.getD j default).Ok) {m ps : List Fct} (hm : Srt m) (hp : m.Perm ps) (ha : AllV vI nI (mkC L) ps) : m = plC L := by
  have hrel := rel_made L L.length (Nat.le_refl _) hok
  rw [List.take_length] at hrel
  exact all_is one_I ha hrel.2.1 (plC_n L [] (fun t h => by cases h)) hm hp

end Go.Proofs.Ytedjbmmegjgegaa

namespace Go.Proofs.Ytedjbmmegjgegaa
open Go.RowKit Go.Lib Go.Maps Go.Sort Go.Shelf
set_option linter.unusedVariables false
set_option linter.unusedSimpArgs false
attribute [local go_sem] Oper.semAt_some

/-- A slice of the call's own, of structs. -/
def OwnV (E : Fct → List Value) (sz : Nat) (ty : TypeId) (w : World) (base : Nat) (v : Value) (t : List Fct) : Prop := w.ownsRow base ty sz v t.length (t.flatMap E)
theorem OwnV.nil (E : Fct → List Value) (sz : Nat) (ty : TypeId) (w : World) (base : Nat) : OwnV E sz ty w base (.slice none 0 0) [] := World.ownsRow_nil _ _ _ _
theorem OwnV.isc {E : Fct → List Value} {sz : Nat} {ty : TypeId} {w : World} {base : Nat} {v : Value} {t : List Fct} (h : OwnV E sz ty w base v t) : ∀ k, v.ownBlock = some k → ∃ o, w.heap[k]? = some o ∧ o.isCells = true ∧ o.isWalk = false := by
  intro k hk
  rcases h.2 with ⟨rfl, _⟩ | ⟨g, cap, cur, rfl, hb, hc, _⟩
  · cases hk
  · simp [Value.ownBlock] at hk
    subst hk
    exact ⟨_, hc, rfl, rfl⟩
theorem OwnV.kept {E : Fct → List Value} {sz : Nat} {ty : TypeId} {w w' : World} {base : Nat} {v : Value} {t : List Fct} (h : OwnV E sz ty w base v t) {row : Option Nat} (hg : w.grownBy w' row) (hne : v.ownBlock = none ∨ v.ownBlock ≠ row) : OwnV E sz ty w' base v t := World.ownsRow.kept h hg hne
theorem OwnV.turn {E : Fct → List Value} {sz : Nat} {ty : TypeId} {w w' : World} {base : Nat} {v : Value} {t : List Fct} (h : OwnV E sz ty w base v t) {row : Option Nat} (hg : w.grownBy w' row) (hr : ∀ r, row = some r → ∃ o : Obj, w.heap[r]? = some o ∧ o.isCells = false) : OwnV E sz ty w' base v t := by
  cases hv : v.ownBlock with
  | none => exact h.kept hg (.inl hv)
  | some k =>
    refine h.kept hg (.inr fun e => ?_)
    obtain ⟨o, ho, hc, _⟩ := h.isc k hv
    obtain ⟨o', ho', hc'⟩ := hr k (by rw [← e, hv])
    rw [ho] at ho'
    cases ho'
    rw [hc] at hc'; cases hc'

theorem OwnV.slice {E : Fct → List Value} {sz : Nat} {ty : TypeId} {w : World} {base : Nat} {v : Value} {t : List Fct} (h : OwnV E sz ty w base v t) : ∃ a n cap, v = .slice a n cap := by
  rcases h.2 with ⟨rfl, h2⟩ | ⟨g, cap, cur, rfl, _⟩
  · exact ⟨_, _, _, rfl⟩
  · exact ⟨_, _, _, rfl⟩
theorem infoRt : (Try.prog.info? 92).map (fun i => (i.zero, i.size, i.bytes)) = some (some (.agg #[.int .i64 0, .int .i64 0, .int .i64 0, .int .i64 0]), 4, 32) := by kernel_rfl
theorem infoCh : (Try.prog.info? 87).map (fun i => (i.zero, i.size, i.bytes)) = some (some (.agg #[.int .i64 0, .int .i64 0, .int .i64 0]), 3, 24) := by kernel_rfl
/-- One fact more, within a fence. -/
theorem wpListIn_append_one {F : Fence} {n : Nat} {E : Fct → List Value} {sz : Nat} {ty sl : TypeId} {zs : Array Value} {bytes : Nat} (hsl : Try.prog.underlying sl = some (.slice ty)) (hinfo : (Try.prog.info? ty).map (fun i => (i.zero, i.size, i.bytes)) = some (some (.agg zs), sz, bytes)) (hzs : zs.size = sz) (hsz : 0 < sz) (hby : bytes ≤ 100000)
    (hE : ∀ t, (E t).length = sz) (hone : ∀ t, ∀ u ∈ E t, u.oneCell' = true)
    {w : World} {ops : Array Oper} {rest : List Oper} {o : Oper} {a : Act} {Q : Exit → Act → World → Prop} (hgd : o.guard = none) (s x : Operand)
    (ho : o.op = .call { callee := .builtin .append, args := #[s, x], argTypes := #[sl, sl] })
    (base : Nat) (v : Value) (t : List Fct) (hs : a.eval s = v) (hown : OwnV E sz ty w base v t) (b : Nat) (u : Fct) (hx : a.eval x = .slice (some ⟨b, 0, none⟩) 1 1) (hu : ∀ j c, (E u)[j]? = some c → w.cell? ⟨b, j, none⟩ = some c)
    (hlen : t.length ≤ 100000) (hbase : base ≤ w.heap.size)
    (h : ∀ v' w', OwnV E sz ty w' base v' (t ++ [u]) → w.grownBy w' v.ownBlock → (v'.ownBlock = v.ownBlock ∨ v'.ownBlock = some w.heap.size) → wpListIn F n Try.prog ops Q rest (a.put o.dst v') w') : wpListIn F n Try.prog ops Q (o :: rest) a w := by
  obtain ⟨i0, hi0, hz0, hz1, hz2⟩ := info_parts hinfo
  refine wpListIn_append_own_at _ hgd s x sl ho base ty i0 _ sz bytes hsl hi0 hz0 hz1 hz2 (by simpa [Value.cells] using hzs) hsz v t.length (t.flatMap E) hs hown ⟨b, 0, none⟩ 1 1 (E u) hx (by rw [hE, Nat.one_mul]) (fun j c hj => by rw [Go.WideShapes.add_plain, Nat.zero_add]; exact hu j c hj) (hone u) (by unfold maxLen; omega) (by have : (t.length + 1) * bytes ≤ 100001 * 100000 := Nat.mul_le_mul (by omega) hby; omega) hbase ?_
  intro v' w' h1 h2 _ h3
  refine h v' w' ?_ h2 h3
  unfold OwnV
  rw [List.length_append, List.flatMap_append, List.flatMap_singleton]; exact h1

/-- Between two rounds: the slice, boxed. -/
def AppI (E : Fct → List Value) (sz : Nat) (ty sl : TypeId) (w : World) (ps : List Fct) (W : World) : Prop :=
  ∃ v, Boxed W w.heap.size sl v ∧ OwnV E sz ty W w.heap.size v ps ∧ Below w.heap.size w W
set_option maxRecDepth 100000 in
set_option maxHeartbeats 1000000 in
theorem appseqv_r (Bm b nn : Nat) (D : DataW Unit) (w : World) (hm : w.cell? ⟨Bm, 0, none⟩ = some (.map (some b))) (hown : w.ownsMap Try.prog 85 ratElem b nn D) (hD : Maps.size D ≤ 100000) :
    Calls Try.prog 74 #[.slice none 0 0, .func (.func 69) #[] #[.pointer (some ⟨Bm, 0, none⟩)]] w fun e w' =>
      ∃ v ps, e = .returned v ∧ AllV vR nR D ps ∧ OwnV rtL 4 92 w' w.heap.size v ps ∧ Below w.heap.size w w' := by
  obtain ⟨n, hn⟩ : ∃ n : Nat, 4 ≤ n := ⟨4, by omega⟩
  have h1 : 1 ≤ n := by omega
  refine callsIn_wide.1 (callsIn_of_wp_marks (n := n) Try.func74 rfl trivial ?_ rfl)
  simp only [Try.ntmps74, List.size_toArray, List.length_cons, List.length_nil, Nat.reduceAdd, Nat.reduceSub, Array.replicate_succ, Array.replicate_zero, List.push_toArray, List.append_toArray, List.nil_append, List.cons_append]
  gi_wp2
  have bx := Boxed.new w 107 (.slice none 0 0)
  have hb := newF w (.cells #[.slice none 0 0] 107)
  have hst := allvr_stops (n - 1) (by omega) Bm b nn D _ (keepF hb hm) (hown.alloc (.cells #[.slice none 0 0] 107))
  have hz : (w.alloc (.cells #[.slice none 0 0] 107)).heap.size = w.heap.size + 1 := by simp
  generalize w.alloc (.cells #[.slice none 0 0] 107) = W1 at *
  refine wpIn_rangeFunc_ownH rfl h1 (gf := 69) (lb := #[.pointer (some ⟨Bm, 0, none⟩)]) rfl trivial (enters_of Try.func69 (by kernel_rfl) rfl)
    hst walksK_t (fun W l o o' h1 h2 h3 h4 => walksK_b (w := W1) W l o o' h1 h2 h3 h4) (Below.refl _ _) (fun x => rfl)
    (AppI rtL 4 92 107 w)
    (fun _ _ _ => False)
    (fun s A C row hs hg hr => by
      obtain ⟨v, h2, h3, h4⟩ := hs
      exact ⟨v, h2.kept hg (fun e' => by obtain ⟨o, ho, hc⟩ := (hr _ e'.symm).2; rw [show A.heap[w.heap.size]? = _ from h2] at ho; cases ho; cases hc), h3.turn hg (fun r e => (hr r e).2), h4.grown hg h4.size (fun j hj => by have := (hr j hj).1; omega)⟩)
    (fun _ _ _ _ _ hs _ _ => hs)
    ⟨_, bx, OwnV.nil _ _ _ _ _, hb⟩
    (fun x a' W => ∃ X, a' = { tmps := #[.slice none 0 0, .func (.func 69) #[] #[.pointer (some ⟨Bm, 0, none⟩)], .pointer (some ⟨w.heap.size, 0, none⟩), undef, .slice none 0 0, .pointer (some ⟨X, 0, none⟩), .func (.func 69) #[] #[.pointer (some ⟨Bm, 0, none⟩)], .agg (rtL x).toArray, undef, undef, undef, undef, undef], defers := [] } ∧ ∀ j c, (rtL x)[j]? = some c → W.cell? ⟨X, j, none⟩ = some c)
    (fun x a' s A C row hs hg hr => by
      obtain ⟨X, e, h2⟩ := hs
      exact ⟨X, e, fun j c hj => cell_kept (h2 j c hj) hg (fun r e => (hr r e).2)⟩)
    ?assign ?body ?done ?stop
  case assign =>
    rintro l pre x W K ⟨v, h2, h3, h4⟩ hK
    dsimp only [rtL]
    gi_wp2
    refine hK _ _ (KeepsFrom.of_grownBy (World.grownBy_alloc W _ none) (fun j e => by cases e)) (KeepsWalks.alloc _ _) ⟨v, h2.alloc _, h3.turn (World.grownBy_alloc W _ none) (fun r e => by cases e), onF h4 (newF _ _)⟩ ⟨W.heap.size, rfl, fun j c hj => ?_⟩
    rw [World.cell?_alloc_at _ _ _ _ rfl]
    simpa [rtL] using hj
  case body =>
    rintro l pre x a' W hl hr ⟨v, h2, h3, h4⟩ ⟨X, rfl, hx⟩ hlt
    have c0 := h2.cell
    have f0 := h2.frozen
    have x0 := hx 0 _ rfl
    have x1 := hx 1 _ rfl
    have x2 := hx 2 _ rfl
    have x3 := hx 3 _ rfl
    have hsW := h4.size
    dsimp only [rtL]
    gi_wp2_with (first
      | (gi_at_builtin; refine wpListIn_append_one (E := rtL) Try.underlying107 infoRt rfl (by decide) (by decide) (fun t => rfl) (fun t u hu => by unfold rtL at hu; simp at hu; rcases hu with rfl | rfl | rfl | rfl <;> rfl) rfl _ _ rfl w.heap.size v pre rfl (h3.turn (World.grownBy_alloc W _ none) (fun r e => by cases e)) W.heap.size x rfl (fun j c hj => by rw [World.cell?_alloc_at _ _ _ _ rfl]; simpa [rtL] using hj) (by omega) (by simp; omega) ?_; intro v' w' hv' hg' hat'; obtain ⟨sa, sn, sc, rfl⟩ := hv'.slice; obtain ⟨hv1, hv2, hr2, hk2, hb2⟩ := h2.appended (by decide) h3 h4.size (Nat.le_refl _) hv' hg'; have hc1 := hv1.cell; have hf1 := hv1.frozen)
      | gi_in)
    exact ⟨hk2.from _, ⟨hk2.size, fun k o hk ho => hk2.same k o hk (Obj.not_cells_of_walk ho)⟩, ⟨_, hv2, hr2, h4.trans hb2⟩⟩
  case done =>
    rintro D ys W hD hall ⟨v, h2, h3, h4⟩ hK
    have hc := h2.cell
    obtain ⟨sa, sn, sc, rfl⟩ := h3.slice
    gi_wp2
    refine ⟨by simp, .inl ⟨_, _, rfl, run_takeDeferred hK, ?_⟩⟩
    exact ⟨_, results_tmp rfl _ _ _, _, ys, rfl, hall, h3.turn (grownBy_putObj' W D _) (fun r e => by cases e; exact ⟨_, hK, rfl⟩), h4.trans (belowK_b (w := w) (Nat.le_refl _) W D _ _ (by omega) hK rfl rfl)⟩
  case stop =>
    rintro D c pre W _ _ h _
    exact h.elim
set_option maxRecDepth 100000 in
theorem collectv_r (Bm b nn : Nat) (D : DataW Unit) (w : World) (hm : w.cell? ⟨Bm, 0, none⟩ = some (.map (some b))) (hown : w.ownsMap Try.prog 85 ratElem b nn D) (hD : Maps.size D ≤ 100000) :
    Calls Try.prog 67 #[.func (.func 69) #[] #[.pointer (some ⟨Bm, 0, none⟩)]] w fun e w' =>
      ∃ v ps, e = .returned v ∧ AllV vR nR D ps ∧ OwnV rtL 4 92 w' w.heap.size v ps ∧ Below w.heap.size w w' := by
  have HA := Lib.hid (appseqv_r Bm b nn D w hm hown hD)
  clear hm hown hD
  go_enter Try.func67, Try.ntmps67
  go_wp2_with fail
  refine HA.out.mono ?_
  rintro e w1 ⟨v, ps, rfl, hall, ho, hb⟩
  have HAll := Lib.hid hall
  have HO := Lib.hid ho
  have HB := Lib.hid hb
  obtain ⟨sa, sn, sc, rfl⟩ := ho.slice
  clear hall ho hb HA
  go_wp2_with fail
  go_ret
  exact ⟨_, ps, rfl, HAll.out, HO.out, HB.out⟩
set_option maxRecDepth 100000 in
set_option maxHeartbeats 1000000 in
theorem appseqv_i (Bm b nn : Nat) (D : DataW Unit) (w : World) (hm : w.cell? ⟨Bm, 0, none⟩ = some (.map (some b))) (hown : w.ownsMap Try.prog 85 intElem b nn D) (hD : Maps.size D ≤ 100000) :
    Calls Try.prog 77 #[.slice none 0 0, .func (.func 44) #[] #[.pointer (some ⟨Bm, 0, none⟩)]] w fun e w' =>
      ∃ v ps, e = .returned v ∧ AllV vI nI D ps ∧ OwnV chL 3 87 w' w.heap.size v ps ∧ Below w.heap.size w w' := by
  obtain ⟨n, hn⟩ : ∃ n : Nat, 4 ≤ n := ⟨4, by omega⟩
  have h1 : 1 ≤ n := by omega
  refine callsIn_wide.1 (callsIn_of_wp_marks (n := n) Try.func77 rfl trivial ?_ rfl)
  simp only [Try.ntmps77, List.size_toArray, List.length_cons, List.length_nil, Nat.reduceAdd, Nat.reduceSub, Array.replicate_succ, Array.replicate_zero, List.push_toArray, List.append_toArray, List.nil_append, List.cons_append]
  gi_wp2
  have bx := Boxed.new w 110 (.slice none 0 0)
  have hb := newF w (.cells #[.slice none 0 0] 110)
  have hst := allvi_stops (n - 1) (by omega) Bm b nn D _ (keepF hb hm) (hown.alloc (.cells #[.slice none 0 0] 110))
  have hz : (w.alloc (.cells #[.slice none 0 0] 110)).heap.size = w.heap.size + 1 := by simp
  generalize w.alloc (.cells #[.slice none 0 0] 110) = W1 at *
  refine wpIn_rangeFunc_ownH rfl h1 (gf := 44) (lb := #[.pointer (some ⟨Bm, 0, none⟩)]) rfl trivial (enters_of Try.func44 (by kernel_rfl) rfl)
    hst walksK_t (fun W l o o' h1 h2 h3 h4 => walksK_b (w := W1) W l o o' h1 h2 h3 h4) (Below.refl _ _) (fun x => rfl)
    (AppI chL 3 87 110 w)
    (fun _ _ _ => False)
    (fun s A C row hs hg hr => by
      obtain ⟨v, h2, h3, h4⟩ := hs
      exact ⟨v, h2.kept hg (fun e' => by obtain ⟨o, ho, hc⟩ := (hr _ e'.symm).2; rw [show A.heap[w.heap.size]? = _ from h2] at ho; cases ho; cases hc), h3.turn hg (fun r e => (hr r e).2), h4.grown hg h4.size (fun j hj => by have := (hr j hj).1; omega)⟩)
    (fun _ _ _ _ _ hs _ _ => hs)
    ⟨_, bx, OwnV.nil _ _ _ _ _, hb⟩
    (fun x a' W => ∃ X, a' = { tmps := #[.slice none 0 0, .func (.func 44) #[] #[.pointer (some ⟨Bm, 0, none⟩)], .pointer (some ⟨w.heap.size, 0, none⟩), undef, .slice none 0 0, .pointer (some ⟨X, 0, none⟩), .func (.func 44) #[] #[.pointer (some ⟨Bm, 0, none⟩)], .agg (chL x).toArray, undef, undef, undef, undef, undef], defers := [] } ∧ ∀ j c, (chL x)[j]? = some c → W.cell? ⟨X, j, none⟩ = some c)
    (fun x a' s A C row hs hg hr => by
      obtain ⟨X, e, h2⟩ := hs
      exact ⟨X, e, fun j c hj => cell_kept (h2 j c hj) hg (fun r e => (hr r e).2)⟩)
    ?assign ?body ?done ?stop
  case assign =>
    rintro l pre x W K ⟨v, h2, h3, h4⟩ hK
    dsimp only [chL]
    gi_wp2
    refine hK _ _ (KeepsFrom.of_grownBy (World.grownBy_alloc W _ none) (fun j e => by cases e)) (KeepsWalks.alloc _ _) ⟨v, h2.alloc _, h3.turn (World.grownBy_alloc W _ none) (fun r e => by cases e), onF h4 (newF _ _)⟩ ⟨W.heap.size, rfl, fun j c hj => ?_⟩
    rw [World.cell?_alloc_at _ _ _ _ rfl]
    simpa [chL] using hj
  case body =>
    rintro l pre x a' W hl hr ⟨v, h2, h3, h4⟩ ⟨X, rfl, hx⟩ hlt
    have c0 := h2.cell
    have f0 := h2.frozen
    have x0 := hx 0 _ rfl
    have x1 := hx 1 _ rfl
    have x2 := hx 2 _ rfl
    have hsW := h4.size
    dsimp only [chL]
    gi_wp2_with (first
      | (gi_at_builtin; refine wpListIn_append_one (E := chL) Try.underlying110 infoCh rfl (by decide) (by decide) (fun t => rfl) (fun t u hu => by unfold chL at hu; simp at hu; rcases hu with rfl | rfl | rfl <;> rfl) rfl _ _ rfl w.heap.size v pre rfl (h3.turn (World.grownBy_alloc W _ none) (fun r e => by cases e)) W.heap.size x rfl (fun j c hj => by rw [World.cell?_alloc_at _ _ _ _ rfl]; simpa [chL] using hj) (by omega) (by simp; omega) ?_; intro v' w' hv' hg' hat'; obtain ⟨sa, sn, sc, rfl⟩ := hv'.slice; obtain ⟨hv1, hv2, hr2, hk2, hb2⟩ := h2.appended (by decide) h3 h4.size (Nat.le_refl _) hv' hg'; have hc1 := hv1.cell; have hf1 := hv1.frozen)
      | gi_in)
    exact ⟨hk2.from _, ⟨hk2.size, fun k o hk ho => hk2.same k o hk (Obj.not_cells_of_walk ho)⟩, ⟨_, hv2, hr2, h4.trans hb2⟩⟩
  case done =>
    rintro D ys W hD hall ⟨v, h2, h3, h4⟩ hK
    have hc := h2.cell
    obtain ⟨sa, sn, sc, rfl⟩ := h3.slice
    gi_wp2
    refine ⟨by simp, .inl ⟨_, _, rfl, run_takeDeferred hK, ?_⟩⟩
    exact ⟨_, results_tmp rfl _ _ _, _, ys, rfl, hall, h3.turn (grownBy_putObj' W D _) (fun r e => by cases e; exact ⟨_, hK, rfl⟩), h4.trans (belowK_b (w := w) (Nat.le_refl _) W D _ _ (by omega) hK rfl rfl)⟩
  case stop =>
    rintro D c pre W _ _ h _
    exact h.elim
set_option maxRecDepth 100000 in
theorem collectv_i (Bm b nn : Nat) (D : DataW Unit) (w : World) (hm : w.cell? ⟨Bm, 0, none⟩ = some (.map (some b))) (hown : w.ownsMap Try.prog 85 intElem b nn D) (hD : Maps.size D ≤ 100000) :
    Calls Try.prog 71 #[.func (.func 44) #[] #[.pointer (some ⟨Bm, 0, none⟩)]] w fun e w' =>
      ∃ v ps, e = .returned v ∧ AllV vI nI D ps ∧ OwnV chL 3 87 w' w.heap.size v ps ∧ Below w.heap.size w w' := by
  have HA := Lib.hid (appseqv_i Bm b nn D w hm hown hD)
  clear hm hown hD
  go_enter Try.func71, Try.ntmps71
  go_wp2_with fail
  refine HA.out.mono ?_
  rintro e w1 ⟨v, ps, rfl, hall, ho, hb⟩
  have HAll := Lib.hid hall
  have HO := Lib.hid ho
  have HB := Lib.hid hb
  obtain ⟨sa, sn, sc, rfl⟩ := ho.slice
  clear hall ho hb HA
  go_wp2_with fail
  go_ret
  exact ⟨_, ps, rfl, HAll.out, HO.out, HB.out⟩

end Go.Proofs.Ytedjbmmegjgegaa

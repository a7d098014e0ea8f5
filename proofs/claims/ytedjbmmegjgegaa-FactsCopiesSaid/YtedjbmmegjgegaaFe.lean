/-
  Package facts: all of a kind: its iterator's contract.
-/
import Derived.Test.YtedjbmmegjgegaaFa
import Derived.RangeFuncMany
import Derived.RangeFuncLeaves
import Derived.RangeFuncBox
import Derived.RangeFuncNested
import Derived.RangeFuncBound
import Derived.RangeFuncCalls
import Derived.Sort.MapsRangeIn
import Derived.OwnWalkIn
import Derived.TacticsInMore
import Derived.RegionIn
import Derived.LoopNIn
import Derived.LoopIn
import Derived.Shelf.Abstract
import Derived.Laws.AppendOwnNone
import Derived.Maps.AppendAt
import Derived.WideShapes
namespace Go.Proofs.Ytedjbmmegjgegaa
open Go.RowKit Go.Lib Go.Maps Go.Sort Go.Shelf
set_option linter.unusedVariables false
set_option linter.unusedSimpArgs false
attribute [local go_sem] Oper.semAt_some

theorem i64_of {a : Int} (h : (Lit.int .i64 a).wf = true) : I64 a := by
  unfold Lit.wf at h
  rw [Bool.and_eq_true, decide_eq_true_iff, decide_eq_true_iff] at h
  exact h
set_option maxRecDepth 100000 in
/-- What reads as a place is one. -/
theorem plc_inv {v : Value} {kl : Lit} (h : keyOf Try.prog 85 v = some kl) : ∃ x : Int × Int, v = plv x.1 x.2 ∧ I64 x.1 ∧ I64 x.2 ∧ kl = plk x.1 x.2 := by
  have hc2 : Try.prog.cellsOf 85 = 2 := by kernel_rfl
  have hc1 : Try.prog.cellsOf 3 = 1 := by kernel_rfl
  obtain ⟨q, hq⟩ : ∃ q, Try.prog.types.size = q + 1 := ex_succ plc_row
  have hno : ∀ u : Value, (¬ ∃ a, u = .int .i64 a ∧ (Lit.int .i64 a).wf = true) → Try.prog.keyLits (q + 1) 3 [u] = none := fun u hu => by
    cases u
    case int k a =>
      by_cases e : k = .i64 ∧ (Lit.int .i64 a).wf = true
      · exact absurd ⟨a, by rw [e.1], e.2⟩ hu
      · simp [Program.keyLits, Try.underlying3]
        intro e1
        subst e1
        cases hw : (Lit.int .i64 a).wf with
        | false => rfl
        | true => exact absurd ⟨rfl, hw⟩ e
    all_goals simp [Program.keyLits, Try.underlying3]
  have h0 := h
  unfold keyOf at h
  rw [Try.underlying85] at h
  dsimp only at h
  split at h
  · rename_i hc
    rw [Bool.and_eq_true] at hc
    have hf := hc.2
    cases v <;> simp [Value.formed, Try.underlying85, hc2] at hf
    rename_i cs
    obtain ⟨u, w, rfl⟩ : ∃ u w, cs = #[u, w] := by
      obtain ⟨l⟩ := cs
      match l, hf with
      | [u, w], _ => exact ⟨u, w, rfl⟩
    rw [hq] at h
    unfold Program.keyLits at h
    simp [Try.underlying85, hc1, hc2, Value.cells] at h
    by_cases e1 : ∃ a, u = .int .i64 a ∧ (Lit.int .i64 a).wf = true
    · by_cases e2 : ∃ a, w = .int .i64 a ∧ (Lit.int .i64 a).wf = true
      · obtain ⟨a, rfl, ha⟩ := e1
        obtain ⟨b, rfl, hb⟩ := e2
        refine ⟨(a, b), rfl, i64_of ha, i64_of hb, ?_⟩
        have := plc_key (i64_of ha) (i64_of hb)
        unfold plv at this
        rw [this] at h0
        injection h0 with h0
        exact h0.symm
      · rw [hno w e2] at h
        cases hk : Try.prog.keyLits (q + 1) 3 [u] with
        | none => rw [hk] at h; simp at h
        | some l => rw [hk] at h; simp at h
    · rw [hno u e1] at h
      simp at h
  · cases h

/-- An entry: a key, a day, what is there. -/
abbrev Ent := Int × Int × Int
def entV (t : Ent) : Value := .agg #[.int .i64 t.1, .int .i64 t.2.1, .int .i64 t.2.2]
def entK (t : Ent) : Lit := plk t.1 t.2.1
/-- The entries that have come; which are left. -/
structure Came (D : DataW Unit) (left : Lit → Bool) (ps : List Ent) : Prop where
  ok : ∀ t ∈ ps, I64 t.1 ∧ I64 t.2.1 ∧ I64 t.2.2
  val : ∀ t ∈ ps, ∀ zd, D.atKey (entK t) zd = intD t.2.2
  gone : ∀ t ∈ ps, left (entK t) = false
  nd : (ps.map entK).Nodup
  all : ∀ kl, Maps.has D kl = true → left kl = true ∨ ∃ t ∈ ps, entK t = kl
theorem Came.start (D : DataW Unit) : Came D (Maps.has D) [] := ⟨fun t h => (by cases h), fun t h => (by cases h), fun t h => (by cases h), List.nodup_nil, fun kl h => .inl h⟩
theorem Came.step {D : DataW Unit} {left : Lit → Bool} {ps : List Ent} (h : Came D left ps) {t : Ent} (hok : I64 t.1 ∧ I64 t.2.1 ∧ I64 t.2.2) (hl : left (entK t) = true) (hv : ∀ zd, D.atKey (entK t) zd = intD t.2.2) : Came D (fun z => left z && !z.sameKey (entK t)) (ps ++ [t]) := by
  refine ⟨fun u hu => ?_, fun u hu => ?_, fun u hu => ?_, ?_, fun kl hk => ?_⟩
  · rcases List.mem_append.1 hu with hu | hu
    · exact h.ok u hu
    · rw [List.mem_singleton.1 hu]; exact hok
  · rcases List.mem_append.1 hu with hu | hu
    · exact h.val u hu
    · rw [List.mem_singleton.1 hu]; exact hv
  · rcases List.mem_append.1 hu with hu | hu
    · rw [h.gone u hu]; rfl
    · rw [List.mem_singleton.1 hu]
      have hs : (entK t).sameKey (entK t) = true := WideAt.sameKey_self (plk_ok hok.1 hok.2.1)
      rw [hs]; simp
  · rw [List.map_append, List.nodup_append]
    refine ⟨h.nd, by simp, fun a ha b hb => ?_⟩
    obtain ⟨u, hu, rfl⟩ := List.mem_map.1 ha
    rw [List.map_singleton, List.mem_singleton] at hb
    intro e
    have := h.gone u hu
    rw [e, hb, hl] at this
    cases this
  · rcases h.all kl hk with h1 | ⟨u, hu, e⟩
    · cases hs : kl.sameKey (entK t) with
      | true => exact .inr ⟨t, by simp, (WideAt.sameKey_eq hs).symm⟩
      | false => exact .inl (by rw [h1]; rfl)
    · exact .inr ⟨u, by simp [hu], e⟩
/-- All have come. -/
def AllOf (D : DataW Unit) (ps : List Ent) : Prop := Came D (fun _ => false) ps
theorem Came.done {D : DataW Unit} {left : Lit → Bool} {ps : List Ent} (h : Came D left ps) (hl : ∀ kl, left kl = false) : AllOf D ps := by
  have e : left = fun _ => false := funext hl
  unfold AllOf; rw [← e]; exact h

set_option maxRecDepth 100000 in
set_option maxHeartbeats 2000000 in
theorem alli_in (F : Fence) (n : Nat) (hF : F = Fence.wide) (hn : 1 ≤ n) (l Bm b nn : Nat) (D : DataW Unit) (J Jx : List Ent → World → Prop)
    (hY : ∀ pre x W, J pre W → pre.length < Maps.size D → YieldAt F (n - 1) Try.prog l #[entV x] W fun e W' =>
      (e = .returned (.bool true) ∧ J (pre ++ [x]) W' ∧ KeepsWalks W W') ∨ (e = .returned (.bool false) ∧ Jx (pre ++ [x]) W'))
    (W : World) (hJ : AbidesFrom W.heap.size J) (hm : W.cell? ⟨Bm, 0, none⟩ = some (.map (some b))) (hown : W.ownsMap Try.prog 85 intElem b nn D) (h0 : J [] W) :
    CallsIn F n Try.prog 44 #[.func (.yield l) #[] #[], .pointer (some ⟨Bm, 0, none⟩)] W fun e W' => (∃ v, e = .returned v) ∧
      ((∃ ps, AllOf D ps ∧ J ps W') ∨ (∃ pre, (∃ left, Came D left pre) ∧ Jx pre W')) := by
  subst hF
  refine callsIn_of_wp Try.func44 rfl trivial ?_ rfl
  simp only [Try.ntmps44, List.size_toArray, List.length_cons, List.length_nil, Nat.reduceAdd, Nat.reduceSub, Array.replicate_succ, Array.replicate_zero, List.push_toArray, List.append_toArray, List.nil_append, List.cons_append]
  gi_wp2_with (first
    | (gi_at_range; refine wpListIn_range_own _ rfl _ 74 rfl 85 3 plc_law Try.underlying74 _ b nn _ rfl hown ?_; intro w0 hrg0 hg0 hs0)
    | gi_in)
  go_frame
  gi_loopw [3, 4] (fun _ _ wr => ∃ (left : Lit → Bool) (cnt : Nat) (ps : List Ent), wr.ranges Try.prog 85 intElem b W.heap.size nn D left cnt ∧ ps.length + cnt ≤ Maps.size D ∧ Came D left ps ∧ J ps wr ∧ W.heap.size ≤ wr.heap.size)
    (fun _ _ wr => wr.rangeLeft b W.heap.size)
  case atStart =>
    exact ⟨_, _, [], hrg0, by simp, Came.start D, hJ [] W w0 none h0 hg0 (fun r e => by cases e), hg0.size⟩
  case round =>
    obtain ⟨left, cnt, ps, hrg, hcs, hC, hJs, hsz⟩ := hrel
    gi_wp2_with (first
      | (gi_at_next; refine wpListIn_next_ranges _ rfl _ rfl 85 plc_law intElem (fun x : Int × Int => plv x.1 x.2) (Value.int .i64) (fun key kl hk => by obtain ⟨x, hx, _⟩ := plc_inv hk; exact ⟨x, hx⟩) (fun v y hv => by obtain ⟨c, rfl, _⟩ := plainElem_int_inv Try.underlying3 hv; exact ⟨c, rfl⟩) b W.heap.size nn _ _ _ rfl hrg ?_ ?_)
      | gi_in)
    · intro hc0 hl0
      gi_wp2
      go_end0
      exact ⟨⟨_, rfl⟩, .inl ⟨ps, hC.done hl0, hJs⟩⟩
    · intro ka kd c kl yd yp w2 cnt2 hkey hlk hv hat hrg2 hlt hg2 hs2 hen
      obtain ⟨x, ex, hx1, hx2, rfl⟩ := plc_inv hkey
      obtain ⟨rfl, rfl⟩ : ka = x.1 ∧ kd = x.2 := by unfold plv at ex; simpa using ex
      obtain ⟨c', ec, ez, hwc⟩ := plainElem_int_inv Try.underlying3 hv
      obtain rfl : c = c' := by simpa using ec
      obtain rfl : yd = .lit (.int .i64 c) := (Prod.mk.inj ez).1
      obtain ⟨ka, kd⟩ := x
      dsimp only at *
      have hJ2 : J ps w2 := hJ ps wr w2 (some W.heap.size) hJs hg2 (fun r e => by cases e; exact ⟨Nat.le_refl _, hrg.iter_walk⟩)
      have hJ3 : J ps (w2.alloc (.cells #[.int .i64 ka, .int .i64 kd] 85)) := hJ ps w2 _ none hJ2 (World.grownBy_alloc _ _ none) (fun r e => by cases e)
      have hrg3 := hrg2.alloc (.cells #[.int .i64 ka, .int .i64 kd] 85)
      obtain ⟨fn, tmps, assign, body, hy, hR⟩ := hY ps (ka, kd, c) _ hJ3 (by omega)
      have HC2 := Lib.hid (hC.step (t := (ka, kd, c)) ⟨hx1, hx2, i64_of hwc⟩ hlk hat)
      have HSz : Hid (W.heap.size ≤ (w2.alloc (.cells #[.int .i64 ka, .int .i64 kd] 85)).heap.size) := Lib.hid (by have := hg2.size; simp; omega)
      have HL := Lib.hid hlt
      have HRg := Lib.hid hrg3
      have HRo := Lib.hid hrg
      dsimp only [entV] at hy
      clear hs2 hkey hv ez ec ex hat hlk hJ2 hJ3 hJs hC hg2 hrg2 hrg3
      unfold plv at hen ⊢
      gi_wp2
      refine hR.mono ?_
      rintro e W3 (⟨rfl, hJ3, hk3⟩ | ⟨rfl, hJx3⟩)
      · have HRg3 := Lib.hid (HRg.out.of_walks hk3)
        have HJ3 := Lib.hid hJ3
        have HSz3 : Hid (W.heap.size ≤ W3.heap.size) := Lib.hid (Nat.le_trans HSz.out hk3.size)
        clear hJ3 hk3 hR hy hen
        gi_wp2
        go_roundw
        case rel => exact ⟨_, cnt2, ps ++ [(ka, kd, c)], HRg3.out, by have := HL.out; simp; omega, HC2.out, HJ3.out, HSz3.out⟩
        case measure => rw [HRg3.out.left_eq, HRo.out.left_eq]; exact HL.out
      · have HX := Lib.hid hJx3
        clear hJx3 hR hy hen
        gi_wp2
        refine bodyPost_ret (results_none rfl _ _ _) rfl ?_
        exact ⟨⟨_, rfl⟩, .inr ⟨ps ++ [(ka, kd, c)], ⟨_, HC2.out⟩, HX.out⟩⟩

/-- all: the map is boxed; the function value captures the box. -/
theorem all_make (v : Value) (w : World) (hv : ∃ b, v = .map b) : Calls Try.prog 33 #[v] w fun e w' => e = .returned (.func (.func 44) #[] #[.pointer (some ⟨w.heap.size, 0, none⟩)]) ∧ w' = w.alloc (.cells #[v] 74) := by
  obtain ⟨b, rfl⟩ := hv
  go_enter Try.func33, Try.ntmps33
  go_wp2_with fail
  go_ret
  exact ⟨rfl, rfl⟩
theorem all_stops (n : Nat) (hn : 1 ≤ n) (Bm b nn : Nat) (D : DataW Unit) (w : World) (hm : w.cell? ⟨Bm, 0, none⟩ = some (.map (some b))) (hown : w.ownsMap Try.prog 85 intElem b nn D) :
    SeqStopsA Fence.wide n Try.prog 44 #[.pointer (some ⟨Bm, 0, none⟩)] (fun x => #[entV x]) (AllOf D) (fun pre => ∃ left, Came D left pre) (Maps.size D) w := fun l J Jx W hW hJ _ hY h0 =>
  alli_in Fence.wide n rfl hn l Bm b nn D J Jx hY W hJ (keepF hW hm) (hown.kept (grown_below hW) (by simp)) h0

/-- The first day, by the entries that came. -/
structure FstA (ps : List Ent) (k f u p : Int) (d : Int) (is : Bool) : Prop where
  yes : is = true → ∃ t ∈ ps, t.1 = k ∧ t.2.2 = p ∧ f ≤ t.2.1 ∧ t.2.1 ≤ u ∧ t.2.1 = d
  low : ∀ t ∈ ps, t.1 = k → t.2.2 = p → f ≤ t.2.1 → t.2.1 ≤ u → is = true ∧ d ≤ t.2.1
  no : is = false → d = 0
theorem FstA.start (k f u p : Int) : FstA [] k f u p 0 false := ⟨fun h => (by cases h), fun t h => (by cases h), fun _ => rfl⟩
theorem FstA.same {ps : List Ent} {k f u p d : Int} {is : Bool} (h : FstA ps k f u p d is) (t : Ent) (hn : ¬ (t.1 = k ∧ t.2.2 = p ∧ f ≤ t.2.1 ∧ t.2.1 ≤ u) ∨ (is = true ∧ d ≤ t.2.1)) : FstA (ps ++ [t]) k f u p d is := by
  refine ⟨fun hi => ?_, fun x hx h1 h2 h3 h4 => ?_, h.no⟩
  · obtain ⟨x, hx, r⟩ := h.yes hi
    exact ⟨x, by simp [hx], r⟩
  · rcases List.mem_append.1 hx with hx | hx
    · exact h.low x hx h1 h2 h3 h4
    · rw [List.mem_singleton.1 hx] at h1 h2 h3 h4 ⊢
      rcases hn with hn | hn
      · exact absurd ⟨h1, h2, h3, h4⟩ hn
      · exact hn
theorem FstA.turn {ps : List Ent} {k f u p d : Int} {is : Bool} (h : FstA ps k f u p d is) (t : Ent) (ht : t.1 = k ∧ t.2.2 = p ∧ f ≤ t.2.1 ∧ t.2.1 ≤ u) (hn : is = false ∨ t.2.1 < d) : FstA (ps ++ [t]) k f u p t.2.1 true := by
  refine ⟨fun _ => ⟨t, by simp, ht.1, ht.2.1, ht.2.2.1, ht.2.2.2, rfl⟩, fun x hx h1 h2 h3 h4 => ⟨rfl, ?_⟩, fun h => (by cases h)⟩
  rcases List.mem_append.1 hx with hx | hx
  · obtain ⟨g1, g2⟩ := h.low x hx h1 h2 h3 h4
    rcases hn with hn | hn
    · rw [hn] at g1; cases g1
    · omega
  · rw [List.mem_singleton.1 hx]; exact Int.le_refl _

end Go.Proofs.Ytedjbmmegjgegaa

namespace Go.Proofs.Ytedjbmmegjgegaa
open Go.RowKit Go.Lib Go.Maps Go.Sort Go.Shelf
set_option linter.unusedVariables false
set_option linter.unusedSimpArgs false
attribute [local go_sem] Oper.semAt_some

theorem wideF {m : Nat} {P : Program} {f : FuncId} {args : Array Value} {w : World} {R R' : Ending → World → Prop} (h : Calls P f args w R) (hm : ∀ e w', R e w' → R' e w') : Fence.wide.fn f ∧ CallsIn Fence.wide m P f args w R' :=
  ⟨trivial, (callsIn_wide.2 h).mono hm⟩
/-- The variables of First, boxed. -/
structure BoxF (W : World) (z : Nat) (k f u p d : Int) (is : Bool) : Prop where
  c0 : W.cell? ⟨z, 0, none⟩ = some (.int .i64 k)
  c1 : W.cell? ⟨z + 1, 0, none⟩ = some (.int .i64 f)
  c2 : W.cell? ⟨z + 1 + 1, 0, none⟩ = some (.int .i64 u)
  c3 : W.cell? ⟨z + 1 + 1 + 1, 0, none⟩ = some (.int .i64 p)
  c4 : W.cell? ⟨z + 1 + 1 + 1 + 1, 0, none⟩ = some (.int .i64 d)
  c5 : W.cell? ⟨z + 1 + 1 + 1 + 1 + 1, 0, none⟩ = some (.bool is)
  f4 : W.frozen? ⟨z + 1 + 1 + 1 + 1, 0, none⟩ = false
  f5 : W.frozen? ⟨z + 1 + 1 + 1 + 1 + 1, 0, none⟩ = false
noncomputable def boxW (w : World) (k f u p : Int) : World := (((((w.alloc (.cells #[.int .i64 k] 3)).alloc (.cells #[.int .i64 f] 3)).alloc (.cells #[.int .i64 u] 3)).alloc (.cells #[.int .i64 p] 3)).alloc (.cells #[.int .i64 0] 3)).alloc (.cells #[.bool false] 4)
theorem boxF_new (w : World) (k f u p : Int) : BoxF (boxW w k f u p) w.heap.size k f u p 0 false ∧ Below w.heap.size w (boxW w k f u p) ∧ (boxW w k f u p).heap.size = w.heap.size + 1 + 1 + 1 + 1 + 1 + 1 := by
  have b0 := (((((Boxed.new w 3 (.int .i64 k)).alloc (.cells #[.int .i64 f] 3)).alloc (.cells #[.int .i64 u] 3)).alloc (.cells #[.int .i64 p] 3)).alloc (.cells #[.int .i64 0] 3)).alloc (.cells #[.bool false] 4)
  have b1 := ((((Boxed.new (w.alloc (.cells #[.int .i64 k] 3)) 3 (.int .i64 f)).alloc (.cells #[.int .i64 u] 3)).alloc (.cells #[.int .i64 p] 3)).alloc (.cells #[.int .i64 0] 3)).alloc (.cells #[.bool false] 4)
  have b2 := (((Boxed.new ((w.alloc (.cells #[.int .i64 k] 3)).alloc (.cells #[.int .i64 f] 3)) 3 (.int .i64 u)).alloc (.cells #[.int .i64 p] 3)).alloc (.cells #[.int .i64 0] 3)).alloc (.cells #[.bool false] 4)
  have b3 := ((Boxed.new (((w.alloc (.cells #[.int .i64 k] 3)).alloc (.cells #[.int .i64 f] 3)).alloc (.cells #[.int .i64 u] 3)) 3 (.int .i64 p)).alloc (.cells #[.int .i64 0] 3)).alloc (.cells #[.bool false] 4)
  have b4 := (Boxed.new ((((w.alloc (.cells #[.int .i64 k] 3)).alloc (.cells #[.int .i64 f] 3)).alloc (.cells #[.int .i64 u] 3)).alloc (.cells #[.int .i64 p] 3)) 3 (.int .i64 0)).alloc (.cells #[.bool false] 4)
  have b5 := Boxed.new (((((w.alloc (.cells #[.int .i64 k] 3)).alloc (.cells #[.int .i64 f] 3)).alloc (.cells #[.int .i64 u] 3)).alloc (.cells #[.int .i64 p] 3)).alloc (.cells #[.int .i64 0] 3)) 4 (.bool false)
  simp only [World.size_alloc] at b1 b2 b3 b4 b5
  refine ⟨⟨b0.cell, b1.cell, b2.cell, b3.cell, b4.cell, b5.cell, b4.frozen, b5.frozen⟩, ?_, ?_⟩
  · exact onF (onF (onF (onF (onF (newF _ _) (newF _ _)) (newF _ _)) (newF _ _)) (newF _ _)) (newF _ _)
  · unfold boxW
    simp only [World.size_alloc]
theorem BoxF.kept {W W' : World} {z : Nat} {k f u p d : Int} {is : Bool} (h : BoxF W z k f u p d is) {row : Option Nat} (hg : W.grownBy W' row) (hr : ∀ r, row = some r → ∃ o : Obj, W.heap[r]? = some o ∧ o.isCells = false) : BoxF W' z k f u p d is :=
  ⟨cell_kept h.c0 hg hr, cell_kept h.c1 hg hr, cell_kept h.c2 hg hr, cell_kept h.c3 hg hr, cell_kept h.c4 hg hr, cell_kept h.c5 hg hr, (frozen_kept h.c4 hg hr).trans h.f4, (frozen_kept h.c5 hg hr).trans h.f5⟩
theorem cfarF {w : World} {b b' o o' : Nat} {v : Value} (h : b ≠ b' ∨ o ≠ o') : (w.setCell ⟨b, o, none⟩ v).cell? ⟨b', o', none⟩ = w.cell? ⟨b', o', none⟩ := by
  apply World.cell?_setCell_other
  intro e
  injection e with e1 e2
  rcases h with h | h
  · exact h e1
  · exact h e2
theorem chereF {w : World} {b o : Nat} {v u : Value} (h : w.cell? ⟨b, o, none⟩ = some u) : (w.setCell ⟨b, o, none⟩ v).cell? ⟨b, o, none⟩ = some v := by
  apply World.cell?_setCell_same
  exact h
/-- First's loop: what holds when some have come. -/
def FstI (w : World) (k f u p : Int) (pre : List Ent) (W : World) : Prop := ∃ d is, BoxF W w.heap.size k f u p d is ∧ FstA pre k f u p d is ∧ Below w.heap.size w W
theorem BoxF.put {W : World} {z : Nat} {k f u p d : Int} {is : Bool} (h : BoxF W z k f u p d is) (d' : Int) : BoxF ((W.setCell ⟨z + 1 + 1 + 1 + 1, 0, none⟩ (.int .i64 d')).setCell ⟨z + 1 + 1 + 1 + 1 + 1, 0, none⟩ (.bool true)) z k f u p d' true := by
  have e5 := (cfarF (w := W) (b := z + 1 + 1 + 1 + 1) (b' := z + 1 + 1 + 1 + 1 + 1) (o := 0) (o' := 0) (v := .int .i64 d') (.inl (by omega))).trans h.c5
  refine ⟨?_, ?_, ?_, ?_, ?_, chereF e5, ?_, ?_⟩
  · rw [cfarF (.inl (by omega)), cfarF (.inl (by omega))]; exact h.c0
  · rw [cfarF (.inl (by omega)), cfarF (.inl (by omega))]; exact h.c1
  · rw [cfarF (.inl (by omega)), cfarF (.inl (by omega))]; exact h.c2
  · rw [cfarF (.inl (by omega)), cfarF (.inl (by omega))]; exact h.c3
  · rw [cfarF (.inl (by omega))]; exact chereF h.c4
  · rw [World.frozen?_setCell, World.frozen?_setCell]; exact h.f4
  · rw [World.frozen?_setCell, World.frozen?_setCell]; exact h.f5
set_option maxRecDepth 100000 in
set_option maxHeartbeats 4000000 in
theorem first_any (w : World) {B bf bc nn : Nat} {Df Dc : DataW Unit} (h : FacM w B bf bc nn Df Dc) (k f u p : Int) :
    Calls Try.prog 19 #[.pointer (some ⟨B, 0, none⟩), .int .i64 k, .int .i64 f, .int .i64 u, .int .i64 p] w fun e w' => ∃ ps d is, e = .returned (.tuple #[.int .i64 d, .bool is]) ∧ AllOf Dc ps ∧ FstA ps k f u p d is ∧ Below w.heap.size w w' := by
  have HO := Lib.hid (fun a w' => ornone_any a w')
  have HMk := Lib.hid (fun (b : Option Nat) w' => all_make (.map b) w' ⟨b, rfl⟩)
  obtain ⟨n, hn⟩ : ∃ n : Nat, 4 ≤ n := ⟨4, by omega⟩
  have h1 : 1 ≤ n := by omega
  refine callsIn_wide.1 (callsIn_of_wp_marks (n := n) Try.func19 rfl trivial ?_ rfl)
  simp only [Try.ntmps19, List.size_toArray, List.length_cons, List.length_nil, Nat.reduceAdd, Nat.reduceSub, Array.replicate_succ, Array.replicate_zero, List.push_toArray, List.append_toArray, List.nil_append, List.cons_append]
  gi_wp2
  refine wideF (HO.out _ _) ?_
  rintro e w1 ⟨rfl, rfl⟩
  obtain ⟨hbx, hb6, hz6⟩ := boxF_new w k f u p
  obtain ⟨W6, hW6⟩ : ∃ W6, W6 = boxW w k f u p := ⟨_, rfl⟩
  have e6 := hW6
  unfold boxW at e6
  rw [← e6]
  rw [← hW6] at hbx hb6 hz6
  clear e6 hW6
  have c1 := (h.keep hb6).c1
  have hown := (h.keep hb6).hc
  have HX6 := Lib.hid hbx
  have HB6 := Lib.hid hb6
  have HZ6 := Lib.hid hz6
  clear hbx hb6 h
  gi_wp2
  refine wideF (HMk.out _ _) ?_
  rintro e w2 ⟨rfl, rfl⟩
  gi_wp2
  have hmb : (W6.alloc (.cells #[.map (some bc)] 74)).cell? ⟨w.heap.size + 1 + 1 + 1 + 1 + 1 + 1, 0, none⟩ = some (.map (some bc)) := by rw [World.cell?_alloc_at _ _ _ _ hz6.symm]; rfl
  have hst := all_stops (n - 1) (by omega) (w.heap.size + 1 + 1 + 1 + 1 + 1 + 1) bc nn Dc (W6.alloc (.cells #[.map (some bc)] 74)) hmb (hown.alloc _)
  have hzb : (W6.alloc (.cells #[.map (some bc)] 74)).heap.size = w.heap.size + 7 := by simp [hz6]
  have hb7 := onF HB6.out (newF W6 (.cells #[.map (some bc)] 74))
  have hx7 : BoxF (W6.alloc (.cells #[.map (some bc)] 74)) w.heap.size k f u p 0 false := HX6.out.kept (World.grownBy_alloc _ _ none) (fun r e => by cases e)
  clear c1 hown HO HMk HX6 HB6 hz6
  generalize W6.alloc (.cells #[.map (some bc)] 74) = W7 at *
  refine wpIn_rangeFunc_ownH rfl h1 (gf := 44) (lb := #[.pointer (some ⟨w.heap.size + 1 + 1 + 1 + 1 + 1 + 1, 0, none⟩)]) rfl trivial (enters_of Try.func44 (by kernel_rfl) rfl)
    hst walksK_t (fun W l o o' h1 h2 h3 h4 => walksK_b (w := W7) W l o o' h1 h2 h3 h4) (Below.refl _ _) (fun _ => rfl)
    (FstI w k f u p)
    (fun _ _ _ => False)
    (fun s A C row hs hg hr => by
      obtain ⟨d, is, h2, h3, h4⟩ := hs
      exact ⟨d, is, h2.kept hg (fun r e => (hr r e).2), h3, h4.grown hg h4.size (fun j hj => by have := (hr j hj).1; omega)⟩)
    (fun _ _ _ _ _ hs _ _ => hs)
    ⟨0, false, hx7, FstA.start k f u p, hb7⟩
    (fun x a' W => ∃ X, a' = { tmps := #[.pointer (some ⟨B, 0, none⟩), .int .i64 k, .int .i64 f, .int .i64 u, .int .i64 p, undef, .pointer (some ⟨w.heap.size, 0, none⟩), .pointer (some ⟨w.heap.size + 1, 0, none⟩), .pointer (some ⟨w.heap.size + 1 + 1, 0, none⟩), .pointer (some ⟨w.heap.size + 1 + 1 + 1, 0, none⟩), .int .i64 0, .bool false, .pointer (some ⟨w.heap.size + 1 + 1 + 1 + 1, 0, none⟩), .pointer (some ⟨w.heap.size + 1 + 1 + 1 + 1 + 1, 0, none⟩), .pointer (some ⟨X, 0, none⟩), undef, .pointer (some ⟨B, 0, none⟩), .pointer (some ⟨B, 0, none⟩), .pointer (some ⟨B, 0, none⟩), .pointer (some ⟨B, 1, none⟩), .map (some bc), .func (.func 44) #[] #[.pointer (some ⟨w.heap.size + 1 + 1 + 1 + 1 + 1 + 1, 0, none⟩)], entV x, undef, undef, undef, undef, undef, undef, undef, undef, undef, undef, undef, undef, undef, undef, undef, undef, undef, undef, undef, undef, undef, undef, undef, undef, undef, undef, undef, undef, undef, undef, undef, undef, undef, undef, undef, undef, undef, undef, undef, undef, undef, undef], defers := [] } ∧ W.cell? ⟨X, 0, none⟩ = some (.int .i64 x.1) ∧ W.cell? ⟨X, 1, none⟩ = some (.int .i64 x.2.1) ∧ W.cell? ⟨X, 2, none⟩ = some (.int .i64 x.2.2))
    (fun x a' s A C row hs hg hr => by
      obtain ⟨X, e, h2, h3, h4⟩ := hs
      exact ⟨X, e, cell_kept h2 hg (fun r e => (hr r e).2), cell_kept h3 hg (fun r e => (hr r e).2), cell_kept h4 hg (fun r e => (hr r e).2)⟩)
    ?assign ?body ?done ?stop
  case assign =>
    rintro l pre x W K ⟨d, is, h2, h3, h4⟩ hK
    dsimp only [entV]
    gi_wp2
    refine hK _ _ (KeepsFrom.of_grownBy (World.grownBy_alloc W _ none) (fun j e => by cases e)) (KeepsWalks.alloc _ _) ⟨d, is, h2.kept (World.grownBy_alloc W _ none) (fun r e => by cases e), h3, onF h4 (newF _ _)⟩ ⟨W.heap.size, rfl, ?_, ?_, ?_⟩
    · rw [World.cell?_alloc_at _ _ _ _ rfl]; rfl
    · rw [World.cell?_alloc_at _ _ _ _ rfl]; rfl
    · rw [World.cell?_alloc_at _ _ _ _ rfl]; rfl
  case body =>
    rintro l pre x a' W hl hr ⟨d, is, h2, h3, h4⟩ ⟨X, rfl, x0, x1, x2⟩ hlt
    have H2 := Lib.hid h2
    have H3 := Lib.hid h3
    have H4 := Lib.hid h4
    obtain ⟨c0, c1, c2, c3, c4, c5, f4, f5⟩ := h2
    obtain ⟨xk, xd, xc⟩ := x
    dsimp only [entV] at x0 x1 x2 ⊢
    clear h3 h4 hlt hr hst hmb hx7 hb7 hzb HZ6 hl
    by_cases q1 : xk = k
    · subst q1
      by_cases q2 : xc = p
      · subst q2
        by_cases q3 : f ≤ xd
        · by_cases q4 : xd ≤ u
          · cases is with
            | false =>
              gi_wp2
              exact ⟨((KeepsOthers.setCell _ _ _).trans (KeepsOthers.setCell _ _ _)).from _, (KeepsWalks.setCell _ _ _).trans (KeepsWalks.setCell _ _ _), ⟨xd, true, H2.out.put xd, H3.out.turn (xk, xd, xc) ⟨rfl, rfl, q3, q4⟩ (.inl rfl), Below.setCell (Below.setCell H4.out (by dsimp only; omega) _) (by dsimp only; omega) _⟩⟩
            | true =>
              by_cases q5 : xd < d
              · gi_wp2
                exact ⟨((KeepsOthers.setCell _ _ _).trans (KeepsOthers.setCell _ _ _)).from _, (KeepsWalks.setCell _ _ _).trans (KeepsWalks.setCell _ _ _), ⟨xd, true, H2.out.put xd, H3.out.turn (xk, xd, xc) ⟨rfl, rfl, q3, q4⟩ (.inr q5), Below.setCell (Below.setCell H4.out (by dsimp only; omega) _) (by dsimp only; omega) _⟩⟩
              · gi_wp2
                exact ⟨KeepsFrom.refl _ _, KeepsWalks.refl _, ⟨d, true, H2.out, H3.out.same _ (.inr ⟨rfl, by show d ≤ xd; omega⟩), H4.out⟩⟩
          · gi_wp2
            exact ⟨KeepsFrom.refl _ _, KeepsWalks.refl _, ⟨d, is, H2.out, H3.out.same _ (.inl (fun h => by have := h.2.2.2; dsimp only at this; omega)), H4.out⟩⟩
        · gi_wp2
          exact ⟨KeepsFrom.refl _ _, KeepsWalks.refl _, ⟨d, is, H2.out, H3.out.same _ (.inl (fun h => by have := h.2.2.1; dsimp only at this; omega)), H4.out⟩⟩
      · have q2' : (xc == p) = false := beq_false_of_ne q2
        gi_wp2
        exact ⟨KeepsFrom.refl _ _, KeepsWalks.refl _, ⟨d, is, H2.out, H3.out.same _ (.inl (fun h => q2 h.2.1)), H4.out⟩⟩
    · have q1' : (xk == k) = false := beq_false_of_ne q1
      gi_wp2
      exact ⟨KeepsFrom.refl _ _, KeepsWalks.refl _, ⟨d, is, H2.out, H3.out.same _ (.inl (fun h => q1 h.1)), H4.out⟩⟩
  case done =>
    rintro D ys W hD hall ⟨d, is, h2, h3, h4⟩ hK
    have c4 := h2.c4
    have c5 := h2.c5
    gi_wp2
    gi_region
    gi_wp2
    refine ⟨by simp, .inl ⟨_, _, rfl, run_takeDeferred hK, ?_⟩⟩
    exact ⟨_, results_tmp2 rfl _ _ _, ys, d, is, rfl, hall, h3, (Below.drew h4).trans (belowK_b (w := w) (Nat.le_refl _) W.drew D _ _ (by omega) hK rfl rfl)⟩
  case stop =>
    rintro D c pre W _ _ h _
    exact h.elim

end Go.Proofs.Ytedjbmmegjgegaa

namespace Go.Proofs.Ytedjbmmegjgegaa
open Go.RowKit Go.Lib Go.Maps
set_option linter.unusedVariables false
set_option linter.unusedSimpArgs false

theorem AllOf.has {D : DataW Unit} {ps : List Ent} (h : AllOf D ps) {t : Ent} (ht : t ∈ ps) : Maps.has D (entK t) = true := has_true_of_atKey (h.val t ht)
theorem AllOf.mem {D : DataW Unit} {ps ps' : List Ent} (h : AllOf D ps) (h' : AllOf D ps') {t : Ent} (ht : t ∈ ps) : t ∈ ps' := by
  have hk := h.has ht
  rcases h'.all _ hk with e | ⟨u, hu, e⟩
  · cases e
  · obtain ⟨a1, a2, a3⟩ := h.ok t ht
    obtain ⟨b1, b2, b3⟩ := h'.ok u hu
    obtain ⟨e1, e2⟩ := plk_inj b1 b2 a1 a2 e
    have v1 := h.val t ht (intD 0)
    have v2 := h'.val u hu (intD 0)
    rw [e, v1] at v2
    have e3 := intD_inj v2
    have : u = t := by
      obtain ⟨x, y, z⟩ := t
      obtain ⟨x', y', z'⟩ := u
      dsimp only at e1 e2 e3
      rw [e1, e2, e3]
    rw [← this]; exact hu
/-- The first day of all days, and those of two parts of them. -/
theorem fst_parts {D : DataW Unit} {ps qs rs : List Ent} (hp : AllOf D ps) (hq : AllOf D qs) (hr : AllOf D rs) {k p t0 t1 t2 d a b : Int} {is al tw : Bool} (h : FstA ps k t0 t2 p d is) (h1 : FstA qs k t0 t1 p a al) (h2 : FstA rs k (t1 + 1) t2 p b tw) (h01 : t0 ≤ t1) (h12 : t1 < t2) :
    (al = true → is = true ∧ d = a) ∧ (al = false → tw = true → is = true ∧ d = b) ∧ (al = false → tw = false → is = false ∧ d = 0) := by
  have key : is = true → (d ≤ t1 → al = true ∧ a ≤ d) ∧ (¬ d ≤ t1 → tw = true ∧ b ≤ d) := fun hi => by
    obtain ⟨t, ht, e1, e2, e3, e4, e5⟩ := h.yes hi
    refine ⟨fun hd => ?_, fun hd => ?_⟩
    · obtain ⟨g1, g2⟩ := h1.low t (hp.mem hq ht) e1 e2 e3 (by omega)
      exact ⟨g1, by omega⟩
    · obtain ⟨g1, g2⟩ := h2.low t (hp.mem hr ht) e1 e2 (by omega) e4
      exact ⟨g1, by omega⟩
  refine ⟨fun ha => ?_, fun ha hb => ?_, fun ha hb => ?_⟩
  · obtain ⟨t, ht, e1, e2, e3, e4, e5⟩ := h1.yes ha
    obtain ⟨g1, g2⟩ := h.low t (hq.mem hp ht) e1 e2 e3 (by omega)
    have := key g1
    by_cases hd : d ≤ t1
    · have := (this.1 hd).2
      exact ⟨g1, by omega⟩
    · exact ⟨g1, by omega⟩
  · obtain ⟨t, ht, e1, e2, e3, e4, e5⟩ := h2.yes hb
    obtain ⟨g1, g2⟩ := h.low t (hr.mem hp ht) e1 e2 (by omega) e4
    have := key g1
    by_cases hd : d ≤ t1
    · have := (this.1 hd).1
      rw [ha] at this; cases this
    · have := (this.2 hd).2
      exact ⟨g1, by omega⟩
  · cases hi : is with
    | false => exact ⟨rfl, h.no hi⟩
    | true =>
      have := key hi
      by_cases hd : d ≤ t1
      · have := (this.1 hd).1
        rw [ha] at this; cases this
      · have := (this.2 hd).1
        rw [hb] at this; cases this
/-- What the choice at the first day is. -/
theorem fst_choice {D : DataW Unit} {ps : List Ent} (hp : AllOf D ps) {k p f u d : Int} {is : Bool} (h : FstA ps k f u p d is) (hi : is = true) : I64 d ∧ f ≤ d ∧ d ≤ u ∧ Maps.has D (plk k d) = true ∧ ∀ x, D.atKey (plk k d) (intD 0) = intD x → x = p := by
  obtain ⟨t, ht, rfl, rfl, e3, e4, rfl⟩ := h.yes hi
  refine ⟨(hp.ok t ht).2.1, e3, e4, hp.has ht, fun x hx => ?_⟩
  have := hp.val t ht (intD 0)
  unfold entK at this
  rw [hx] at this
  exact intD_inj this
/-- The arrays that came in, boxed. -/
structure ArrB (W : World) (z : Nat) (a b c d e : Int) : Prop where
  c0 : W.cell? ⟨z, 0, none⟩ = some (.int .i64 a)
  c1 : W.cell? ⟨z, 1, none⟩ = some (.int .i64 b)
  d0 : W.cell? ⟨z + 1, 0, none⟩ = some (.int .i64 c)
  d1 : W.cell? ⟨z + 1, 1, none⟩ = some (.int .i64 d)
  d2 : W.cell? ⟨z + 1, 2, none⟩ = some (.int .i64 e)
theorem ArrB.keep {W W' : World} {z : Nat} {a b c d e : Int} (h : ArrB W z a b c d e) (hb : Below W.heap.size W W') : ArrB W' z a b c d e :=
  ⟨keepF hb h.c0, keepF hb h.c1, keepF hb h.d0, keepF hb h.d1, keepF hb h.d2⟩
theorem arrB_new (w : World) (a b c d e : Int) : ArrB ((w.alloc (.cells #[.int .i64 a, .int .i64 b] 58)).alloc (.cells #[.int .i64 c, .int .i64 d, .int .i64 e] 69)) w.heap.size a b c d e := by
  refine ⟨keepF (newF _ _) ?_, keepF (newF _ _) ?_, ?_, ?_, ?_⟩
  · rw [World.cell?_alloc_at _ _ _ _ rfl]; rfl
  · rw [World.cell?_alloc_at _ _ _ _ rfl]; rfl
  · rw [World.cell?_alloc_at _ _ _ _ (by simp)]; rfl
  · rw [World.cell?_alloc_at _ _ _ _ (by simp)]; rfl
  · rw [World.cell?_alloc_at _ _ _ _ (by simp)]; rfl

set_option maxRecDepth 100000 in
set_option maxHeartbeats 8000000 in
theorem ffirst_walk (w : World) (v : Value) (L : List Tol) (h : SlTol w v L) (hok : ∀ j, j < L.length → (L.getD j default).Ok) (k p t0 t1 t2 : Int) (hk : I64 k) (h0 : I64 t0) (h1 : I64 t1) (h2 : I64 t2) :
    Calls Try.prog 8 #[v, .agg #[.int .i64 k, .int .i64 p], .agg #[.int .i64 t0, .int .i64 t1, .int .i64 t2]] w fun e w' => e = .returned (.bool true) ∧ Below w.heap.size w w' := by
  have hbw := onF (newF w (.cells #[.int .i64 k, .int .i64 p] 58)) (newF (w.alloc (.cells #[.int .i64 k, .int .i64 p] 58)) (.cells #[.int .i64 t0, .int .i64 t1, .int .i64 t2] 69))
  have HB0 := Lib.hid hbw
  have HA0 := Lib.hid (arrB_new w k p t0 t1 t2)
  have HMd := Lib.hid (made_any _ v L (h.keep hbw) hok)
  have HAw := Lib.hid (fun w' : World => awake7_any w')
  have HFi := Lib.hid (fun (w' : World) (B bf bc n : Nat) (Df Dc : DataW Unit) (hm : FacM w' B bf bc n Df Dc) (f u : Int) => first_any w' hm k f u p)
  have HCh := Lib.hid (fun (w' : World) (B bf bc n : Nat) (Df Dc : DataW Unit) (hm : FacM w' B bf bc n Df Dc) (d : Int) (hd : I64 d) => choice_any w' hm k d hk hd)
  obtain ⟨va, vc, rfl⟩ : ∃ a c, v = .slice a L.length c := by
    rcases h with ⟨rfl, a, c, rfl⟩ | ⟨_, b, o, c, rfl, _⟩
    · exact ⟨a, c, rfl⟩
    · exact ⟨_, _, rfl⟩
  have HI := Lib.hid (And.intro h0 (And.intro h1 h2))
  clear h hok hbw h0 h1 h2 hk
  go_enter Try.func8, Try.ntmps8
  go_wp2_with fail
  generalize (w.alloc (.cells #[.int .i64 k, .int .i64 p] 58)).alloc (.cells #[.int .i64 t0, .int .i64 t1, .int .i64 t2] 69) = W0 at *
  refine (HMd.out).mono ?_
  rintro e w1 ⟨B, bf, bc, rfl, hm, hB, hbf, hbc, hb1⟩
  have HM1 := Lib.hid hm
  have HB1 := Lib.hid (onF HB0.out hb1)
  have HA1 := Lib.hid (HA0.out.keep hb1)
  clear hm hB hbf hbc hb1 HMd HB0 HA0
  obtain ⟨c0, c1, d0, d1, d2⟩ := HA1.out
  by_cases a1 : 60 < L.length
  · have i1 : (60 : Int) < (L.length : Int) := by omega
    clear a1
    go_wp2_with fail
    refine (HAw.out _).mono ?_
    rintro e w2 ⟨rfl, hb2⟩
    have HB2 := Lib.hid (onF HB1.out hb2)
    clear hb2
    go_wp2_with fail
    go_ret
    exact ⟨rfl, HB2.out⟩
  have i1 : ¬ (60 : Int) < (L.length : Int) := by omega
  clear a1
  by_cases a2 : t1 < t0
  · go_wp2_with fail
    refine (HAw.out _).mono ?_
    rintro e w2 ⟨rfl, hb2⟩
    have HB2 := Lib.hid (onF HB1.out hb2)
    clear hb2
    go_wp2_with fail
    go_ret
    exact ⟨rfl, HB2.out⟩
  by_cases a3 : t2 ≤ t1
  · go_wp2_with fail
    refine (HAw.out _).mono ?_
    rintro e w2 ⟨rfl, hb2⟩
    have HB2 := Lib.hid (onF HB1.out hb2)
    clear hb2
    go_wp2_with fail
    go_ret
    exact ⟨rfl, HB2.out⟩
  have n1 : t1 + 1 ≤ 9223372036854775807 := by have := HI.out.2.2.2; omega
  have n2 : -9223372036854775808 ≤ t1 + 1 := by have := HI.out.2.1.1; omega
  have H01 := Lib.hid (show t0 ≤ t1 by omega)
  have H12 := Lib.hid (show t1 < t2 by omega)
  go_wp2_with fail
  refine (HFi.out w1 B bf bc _ _ _ HM1.out t0 t2).mono ?_
  rintro e w2 ⟨ps, d, is, rfl, hal, hf, hb2⟩
  have hal0 := Lib.hid hal
  have hf0 := Lib.hid hf
  have HM2 := Lib.hid (HM1.out.keep hb2)
  have HB2 := Lib.hid (onF HB1.out hb2)
  have HA2 := Lib.hid (HA1.out.keep hb2)
  clear hal hf hb2 c0 c1 d0 d1 d2 HM1 HB1 HA1 a2 a3 i1
  obtain ⟨c0, c1, d0, d1, d2⟩ := HA2.out
  go_wp2_with fail
  refine (HFi.out w2 B bf bc _ _ _ HM2.out t0 t1).mono ?_
  rintro e w3 ⟨qs, a, al, rfl, hal, hf, hb2⟩
  have hal1 := Lib.hid hal
  have hf1 := Lib.hid hf
  have HM3 := Lib.hid (HM2.out.keep hb2)
  have HB3 := Lib.hid (onF HB2.out hb2)
  have HA3 := Lib.hid (HA2.out.keep hb2)
  clear hal hf hb2 c0 c1 d0 d1 d2 HM2 HB2 HA2
  obtain ⟨c0, c1, d0, d1, d2⟩ := HA3.out
  go_wp2_with fail
  refine (HFi.out w3 B bf bc _ _ _ HM3.out (t1 + 1) t2).mono ?_
  rintro e w4 ⟨rs, b, tw, rfl, hal, hf, hb2⟩
  have HP := Lib.hid (fst_parts hal0.out hal1.out hal hf0.out hf1.out hf H01.out H12.out)
  have HM4 := Lib.hid (HM3.out.keep hb2)
  have HB4 := Lib.hid (onF HB3.out hb2)
  have HA4 := Lib.hid (HA3.out.keep hb2)
  clear hal hf hb2 c0 c1 d0 d1 d2 HM3 HB3 HA3 HFi hal1 hf1 n1 n2
  obtain ⟨c0, c1, d0, d1, d2⟩ := HA4.out
  cases al with
  | true =>
    obtain ⟨hi, hda⟩ := HP.out.1 rfl
    subst hi hda
    clear HP
    obtain ⟨hd64, l1, l2, hhas, hval⟩ := fst_choice hal0.out hf0.out rfl
    have HV := Lib.hid hval
    have HCc := Lib.hid (HCh.out w4 B bf bc _ _ _ HM4.out d hd64)
    rw [hhas] at HCc
    clear hd64 hhas hval hal0 hf0 HCh HM4
    go_wp2_with fail
    refine (HCc.out).mono ?_
    rintro e w5 ⟨x, rfl, hx, hb5⟩
    obtain rfl := HV.out x hx
    have HB5 := Lib.hid (onF HB4.out hb5)
    obtain ⟨c0, c1, d0, d1, d2⟩ := HA4.out.keep hb5
    clear hx hb5 HCc HV HB4 HA4
    go_wp2_with fail
    refine (HAw.out _).mono ?_
    rintro e w6 ⟨rfl, hb6⟩
    have HB6 := Lib.hid (onF HB5.out hb6)
    clear hb6
    go_wp2_with fail
    go_ret
    exact ⟨rfl, HB6.out⟩
  | false =>
    cases tw with
    | true =>
      obtain ⟨hi, hda⟩ := HP.out.2.1 rfl rfl
      subst hi hda
      clear HP
      obtain ⟨hd64, l1, l2, hhas, hval⟩ := fst_choice hal0.out hf0.out rfl
      have HV := Lib.hid hval
      have HCc := Lib.hid (HCh.out w4 B bf bc _ _ _ HM4.out d hd64)
      rw [hhas] at HCc
      clear hd64 hhas hval hal0 hf0 HCh HM4
      go_wp2_with fail
      refine (HCc.out).mono ?_
      rintro e w5 ⟨x, rfl, hx, hb5⟩
      obtain rfl := HV.out x hx
      have HB5 := Lib.hid (onF HB4.out hb5)
      obtain ⟨c0, c1, d0, d1, d2⟩ := HA4.out.keep hb5
      clear hx hb5 HCc HV HB4 HA4
      go_wp2_with fail
      refine (HAw.out _).mono ?_
      rintro e w6 ⟨rfl, hb6⟩
      have HB6 := Lib.hid (onF HB5.out hb6)
      clear hb6
      go_wp2_with fail
      go_ret
      exact ⟨rfl, HB6.out⟩
    | false =>
      obtain ⟨hi, hda⟩ := HP.out.2.2 rfl rfl
      subst hi hda
      clear HP
      go_wp2_with fail
      refine (HAw.out _).mono ?_
      rintro e w6 ⟨rfl, hb6⟩
      have HB6 := Lib.hid (onF HB4.out hb6)
      clear hb6
      go_wp2_with fail
      go_ret
      exact ⟨rfl, HB6.out⟩

end Go.Proofs.Ytedjbmmegjgegaa

namespace Go.Proofs.Ytedjbmmegjgegaa
open Go.RowKit Go.Lib
set_option linter.unusedVariables false

/-- A fact of the document's answer: a key, a day, a value, a pick. -/
structure Fct where
  k : Int
  d : Int
  x : Int
  y : Int
  p : Int
instance : Inhabited Fct := ⟨⟨0, 0, 0, 0, 0⟩⟩
structure FctC (w : World) (b p : Nat) (n : Fct) : Prop where
  c0 : w.cell? ⟨b, p, none⟩ = some (.int .i64 n.k)
  c1 : w.cell? ⟨b, p + 1, none⟩ = some (.int .i64 n.d)
  c2 : w.cell? ⟨b, p + 2, none⟩ = some (.int .i64 n.x)
  c3 : w.cell? ⟨b, p + 3, none⟩ = some (.int .i64 n.y)
  c4 : w.cell? ⟨b, p + 4, none⟩ = some (.int .i64 n.p)
theorem FctC.keep {w w' : World} {b p : Nat} {n : Fct} (h : FctC w b p n) (hb : Below w.heap.size w w') : FctC w' b p n :=
  ⟨keepF hb h.c0, keepF hb h.c1, keepF hb h.c2, keepF hb h.c3, keepF hb h.c4⟩
def FctA (w : World) (b o : Nat) (t : List Fct) : Prop := ∀ j, j < t.length → FctC w b (o + j * 5) (t.getD j default)
theorem FctA.keep {w w' : World} {b o : Nat} {t : List Fct} (h : FctA w b o t) (hb : Below w.heap.size w w') : FctA w' b o t := fun j hj => (h j hj).keep hb
/-- A slice of facts. -/
def SlFct (w : World) (v : Value) (t : List Fct) : Prop := (t = [] ∧ ∃ a cap, v = .slice a 0 cap) ∨ (0 < t.length ∧ ∃ b off cap, v = .slice (some ⟨b, off, none⟩) t.length cap ∧ t.length ≤ cap ∧ cap ≤ 9223372036854775807 ∧ FctA w b off t)
theorem SlFct.keep {w w' : World} {v : Value} {t : List Fct} (h : SlFct w v t) (hb : Below w.heap.size w w') : SlFct w' v t := by
  rcases h with h | ⟨h0, b, o, cap, h1, h2, h3, h4⟩
  · exact .inl h
  · exact .inr ⟨h0, b, o, cap, h1, h2, h3, h4.keep hb⟩
theorem SlFct.slice {w : World} {v : Value} {t : List Fct} (h : SlFct w v t) : ∃ a cap, v = .slice a t.length cap := by
  rcases h with ⟨rfl, a, cap, rfl⟩ | ⟨_, b, o, cap, rfl, _⟩
  · exact ⟨_, _, rfl⟩
  · exact ⟨_, _, rfl⟩

/-- A fact's cells, in a row. -/
def fcL (n : Fct) : List Value := [.int .i64 n.k, .int .i64 n.d, .int .i64 n.x, .int .i64 n.y, .int .i64 n.p]
def fcR (t : List Fct) : List Value := t.flatMap fcL
theorem fcR_len : ∀ t : List Fct, (fcR t).length = t.length * 5
  | [] => rfl
  | n :: t => by
    have := fcR_len t
    unfold fcR at this ⊢
    rw [List.flatMap_cons, List.length_append, this, List.length_cons]
    show 5 + _ = _
    omega
theorem fcR_app (t u : List Fct) : fcR (t ++ u) = fcR t ++ fcR u := by unfold fcR; rw [List.flatMap_append]
theorem fcR_get : ∀ (t : List Fct) (j i : Nat), j < t.length → i < 5 → (fcR t)[j * 5 + i]? = (fcL (t.getD j default))[i]?
  | [], j, i, hj, _ => absurd hj (Nat.not_lt_zero _)
  | n :: t, 0, i, _, hi => by
    unfold fcR
    rw [List.flatMap_cons, Nat.zero_mul, Nat.zero_add, List.getElem?_append_left (by show i < 5; exact hi)]
    rfl
  | n :: t, j + 1, i, hj, hi => by
    have ih := fcR_get t j i (by simpa using hj) hi
    unfold fcR at ih ⊢
    rw [List.flatMap_cons, List.getElem?_append_right (by show 5 ≤ _; omega), show (j + 1) * 5 + i - (fcL n).length = j * 5 + i by show (j + 1) * 5 + i - 5 = _; omega, ih]
    simp [List.getD_eq_getElem?_getD]
theorem fcR_one {t : List Fct} : ∀ u ∈ fcR t, u.oneCell' = true := by
  intro u hu
  obtain ⟨n, _, h⟩ := List.mem_flatMap.1 hu
  unfold fcL at h
  simp at h
  rcases h with rfl | rfl | rfl | rfl | rfl <;> rfl
theorem fct_news {w : World} {b o : Nat} {t : List Fct} (hN : FctA w b o t) : ∀ j u, (fcR t)[j]? = some u → w.cell? ((⟨b, o, none⟩ : Addr).add j) = some u := by
  intro j u hu
  have hlt : j < t.length * 5 := by rw [← fcR_len]; exact (List.getElem?_eq_some_iff.1 hu).1
  obtain ⟨q, r, hr, rfl⟩ : ∃ q r, r < 5 ∧ j = q * 5 + r := ⟨j / 5, j % 5, by omega, by omega⟩
  have hq : q < t.length := by omega
  obtain ⟨c0, c1, c2, c3, c4⟩ := hN q hq
  rw [fcR_get t q r hq hr] at hu
  rw [Go.WideShapes.add_plain]
  match r, hr with
  | 0, _ => rw [Nat.add_zero, c0]; exact hu
  | 1, _ => rw [← Nat.add_assoc, c1]; exact hu
  | 2, _ => rw [← Nat.add_assoc, c2]; exact hu
  | 3, _ => rw [← Nat.add_assoc, c3]; exact hu
  | 4, _ => rw [← Nat.add_assoc, c4]; exact hu

/-- A slice of the call's own, in a block from base on, holds facts. -/
def OwnT (w : World) (base : Nat) (v : Value) (t : List Fct) : Prop := w.ownsRow base 43 5 v t.length (fcR t)
theorem OwnT.nil (w : World) (base : Nat) : OwnT w base (.slice none 0 0) [] := World.ownsRow_nil _ _ _ _
theorem OwnT.one (w : World) (base : Nat) (n : Fct) (hb : base ≤ w.heap.size) : OwnT (w.alloc (.cells #[.int .i64 n.k, .int .i64 n.d, .int .i64 n.x, .int .i64 n.y, .int .i64 n.p] 43)) base (.slice (some ⟨w.heap.size, 0, none⟩) 1 1) [n] :=
  World.ownsRow_lit w #[.int .i64 n.k, .int .i64 n.d, .int .i64 n.x, .int .i64 n.y, .int .i64 n.p] 1 hb (by unfold maxLen; omega) rfl
theorem OwnT.grown {w w' : World} {base : Nat} {v : Value} {t : List Fct} (h : OwnT w base v t) (hg : Below w.heap.size w w') : OwnT w' base v t := by
  obtain ⟨h1, h2⟩ := h
  refine ⟨h1, ?_⟩
  rcases h2 with h2 | ⟨g, cap, cur, rfl, hb, hc, h3⟩
  · exact Or.inl h2
  · refine Or.inr ⟨g, cap, cur, rfl, hb, ?_, h3⟩
    rw [hg.block g (Array.getElem?_eq_some_iff.1 hc).1]
    exact hc
theorem OwnT.base {w : World} {a b : Nat} {v : Value} {t : List Fct} (h : OwnT w b v t) (hab : a ≤ b) : OwnT w a v t := by
  obtain ⟨h1, h2⟩ := h
  refine ⟨h1, ?_⟩
  rcases h2 with h2 | ⟨g, cap, cur, rfl, hb, h3⟩
  · exact .inl h2
  · exact .inr ⟨g, cap, cur, rfl, Nat.le_trans hab hb, h3⟩
theorem OwnT.slice {w : World} {base : Nat} {v : Value} {t : List Fct} (h : OwnT w base v t) : ∃ a cap, v = .slice a t.length cap := by
  rcases h.2 with ⟨rfl, h2⟩ | ⟨g, cap, cur, rfl, _⟩
  · exact ⟨none, 0, by rw [h2]⟩
  · exact ⟨_, _, rfl⟩
theorem OwnT.sl {w : World} {base : Nat} {v : Value} {t : List Fct} (h : OwnT w base v t) : SlFct w v t := by
  obtain ⟨h1, h2⟩ := id h
  rcases h2 with ⟨rfl, h2⟩ | ⟨g, cap, cur, rfl, hb, hc, hn, hm, h3, h4⟩
  · exact .inl ⟨List.length_eq_zero_iff.1 h2, _, _, rfl⟩
  · by_cases h0 : t.length = 0
    · exact .inl ⟨List.length_eq_zero_iff.1 h0, some ⟨g, 0, none⟩, cap, by rw [h0]⟩
    · refine .inr ⟨by omega, g, 0, cap, rfl, hn, by unfold maxLen at hm; omega, fun j hj => ?_⟩
      have hcl := h.cells (g := g) rfl
      have k : ∀ i u, i < 5 → (fcL (t.getD j default))[i]? = some u → w.cell? ⟨g, 0 + j * 5 + i, none⟩ = some u := by
        intro i u hi hu
        have := hcl (j * 5 + i) u (by rw [fcR_get t j i hj hi]; exact hu)
        rw [Go.WideShapes.add_plain, ← Nat.add_assoc] at this
        exact this
      exact ⟨k 0 _ (by omega) rfl, k 1 _ (by omega) rfl, k 2 _ (by omega) rfl, k 3 _ (by omega) rfl, k 4 _ (by omega) rfl⟩
theorem OwnT.kept {w w' : World} {base : Nat} {v : Value} {t : List Fct} (h : OwnT w base v t) {row : Option Nat} (hg : w.grownBy w' row) (hne : v.ownBlock = none ∨ v.ownBlock ≠ row) : OwnT w' base v t := World.ownsRow.kept h hg hne

theorem infoFct : (Try.prog.info? 43).map (fun i => (i.zero, i.size, i.bytes)) = some (some (.agg #[.int .i64 0, .int .i64 0, .int .i64 0, .int .i64 0, .int .i64 0]), 5, 40) := by kernel_rfl

/-- Nothing is appended. -/
theorem run_append_noF {P : Program} {w : World} (base : Nat) (t ty e : TypeId) (i : TypeInfo) (size : Nat) (ht : P.underlying t = some (.slice e)) (hi : P.info? e = some i)
    (v : Value) (n : Nat) (xs : List Value) (hown : w.ownsRow base e size v n xs) (c : Nat) :
    (Builtin.append_ #[t, t] ty #[v, .slice none 0 c]).run P w = .ok v w := by
  rcases hown.2 with ⟨rfl, rfl⟩ | ⟨g, cap, cur, rfl, _, _, hnc, _⟩
  · simp [Builtin.append_, run_underlying ht, sizeOf, typeInfo, hi, Builtin.lenOf, Builtin.firstCells]
  · simp [Builtin.append_, run_underlying ht, sizeOf, typeInfo, hi, Builtin.lenOf, Builtin.firstCells, hnc, storeCells]

/-- Facts appended to facts of the call's own. -/
theorem wpList_append_fct {w : World} {ops : Array Oper} {rest : List Oper} {o : Oper} {a : Act} {Q : Exit → Act → World → Prop} (hgd : o.guard = none) (s x : Operand)
    (ho : o.op = .call { callee := .builtin .append, args := #[s, x], argTypes := #[33, 33] })
    (base : Nat) (v : Value) (t : List Fct) (hs : a.eval s = v) (hown : OwnT w base v t) (xv : Value) (u : List Fct) (hx : a.eval x = xv) (hsl : SlFct w xv u)
    (hlen : t.length + u.length ≤ 100000) (hbase : base ≤ w.heap.size)
    (h : ∀ v' w', OwnT w' base v' (t ++ u) → w.grownBy w' v.ownBlock → (v'.ownBlock = v.ownBlock ∨ v'.ownBlock = some w.heap.size) → wpList Try.prog ops Q rest (a.put o.dst v') w') : wpList Try.prog ops Q (o :: rest) a w := by
  obtain ⟨i0, hi0, hz0, hz1, hz2⟩ := info_parts infoFct
  have key : ∀ (ad : Addr) (c : Nat) , xv = .slice (some ad) u.length c → (∀ j z, (fcR u)[j]? = some z → w.cell? (ad.add j) = some z) → wpList Try.prog ops Q (o :: rest) a w := by
    intro ad c hxv hnews
    refine wpList_append_own_at _ hgd s x 33 ho base 43 i0 _ 5 40 Try.underlying33 hi0 hz0 hz1 hz2 rfl (by decide) v t.length (fcR t) hs hown ad u.length c (fcR u) (hx.trans hxv) (fcR_len u) hnews fcR_one (by unfold maxLen; omega) (by omega) hbase ?_
    intro v' w' h1 h2 _ h3
    refine h v' w' ?_ h2 h3
    unfold OwnT
    rw [List.length_append, fcR_app]; exact h1
  rcases hsl with ⟨rfl, ao, c, hv⟩ | ⟨_, b, off, c, hv, _, _, hN⟩
  · cases ao with
    | some ad => exact key ad c hv (fun j z hz => by cases hz)
    | none =>
      subst hv
      refine wpList_plain hgd fun K hK => ?_
      have hrun := run_append_noF (P := Try.prog) (w := w) base 33 o.type 43 i0 5 Try.underlying33 hi0 v _ _ hown c
      unfold Oper.wp
      simp only [execOp, ho, resolve, invoke, builtin, Sem.run_bind, Sem.run_pure, Result.andThen_ok, List.map_toArray, List.map_cons, List.map_nil, hs, hx, hrun]
      exact hK _ _ (h v w (by rw [List.append_nil]; exact hown) ⟨rfl, rfl, rfl, Nat.le_refl _, fun _ _ _ => rfl⟩ (.inl rfl))
  · exact key ⟨b, off, none⟩ c hv (fct_news hN)

/-- Below, behind an append to facts of the call's own. -/
theorem below_fct {B base : Nat} {w0 w w' : World} {v : Value} {t : List Fct} (hb : Below B w0 w) (ho : OwnT w base v t) (hB : B ≤ base) (hw : B ≤ w.heap.size) (hg : w.grownBy w' v.ownBlock) : Below B w0 w' := by
  refine hb.grown hg (by omega) (fun k hk => ?_)
  have := World.ownsRow.lt ho k hk
  omega


end Go.Proofs.Ytedjbmmegjgegaa

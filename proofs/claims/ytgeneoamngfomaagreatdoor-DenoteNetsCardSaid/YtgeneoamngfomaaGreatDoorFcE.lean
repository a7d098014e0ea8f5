/-
  Package facts: all of a kind: its iterator's contract.
-/
import Derived.Test.YtgeneoamngfomaaGreatDoorFa
import Derived.RangeFuncMany
import Derived.RangeFuncLeaves
import Derived.RangeFuncBox
import Derived.RangeFuncNested
import Derived.RangeFuncBound
import Derived.RangeFuncCalls
import Derived.Sort.MapsRangeIn
import Derived.OwnWalkIn
import Derived.TacticsInMore
import Derived.RegionIn
import Derived.LoopNIn
import Derived.LoopIn
import Derived.Shelf.Abstract
namespace Go.Proofs.YtgeneoamngfomaaGreatDoor
open Go.RowKit Go.Lib Go.Maps Go.Sort Go.Shelf
set_option linter.unusedVariables false
set_option linter.unusedSimpArgs false
attribute [local go_sem] Oper.semAt_some

theorem i64_of {a : Int} (h : (Lit.int .i64 a).wf = true) : I64 a := by
  unfold Lit.wf at h
  rw [Bool.and_eq_true, decide_eq_true_iff, decide_eq_true_iff] at h
  exact h
set_option maxRecDepth 100000 in
/-- What reads as a place is one. -/
theorem plc_inv {v : Value} {kl : Lit} (h : keyOf Tryz.prog 155 v = some kl) : ∃ x : Int × Int, v = plv x.1 x.2 ∧ I64 x.1 ∧ I64 x.2 ∧ kl = plk x.1 x.2 := by
  have hc2 : Tryz.prog.cellsOf 155 = 2 := by kernel_rfl
  have hc1 : Tryz.prog.cellsOf 3 = 1 := by kernel_rfl
  obtain ⟨q, hq⟩ : ∃ q, Tryz.prog.types.size = q + 1 := ex_succ plc_row
  have hno : ∀ u : Value, (¬ ∃ a, u = .int .i64 a ∧ (Lit.int .i64 a).wf = true) → Tryz.prog.keyLits (q + 1) 3 [u] = none := fun u hu => by
    cases u
    case int k a =>
      by_cases e : k = .i64 ∧ (Lit.int .i64 a).wf = true
      · exact absurd ⟨a, by rw [e.1], e.2⟩ hu
      · simp [Program.keyLits, Tryz.underlying3]
        intro e1
        subst e1
        cases hw : (Lit.int .i64 a).wf with
        | false => rfl
        | true => exact absurd ⟨rfl, hw⟩ e
    all_goals simp [Program.keyLits, Tryz.underlying3]
  have h0 := h
  unfold keyOf at h
  rw [Tryz.underlying155] at h
  dsimp only at h
  split at h
  · rename_i hc
    rw [Bool.and_eq_true] at hc
    have hf := hc.2
    cases v <;> simp [Value.formed, Tryz.underlying155, hc2] at hf
    rename_i cs
    obtain ⟨u, w, rfl⟩ : ∃ u w, cs = #[u, w] := by
      obtain ⟨l⟩ := cs
      match l, hf with
      | [u, w], _ => exact ⟨u, w, rfl⟩
    rw [hq] at h
    unfold Program.keyLits at h
    simp [Tryz.underlying155, hc1, hc2, Value.cells] at h
    by_cases e1 : ∃ a, u = .int .i64 a ∧ (Lit.int .i64 a).wf = true
    · by_cases e2 : ∃ a, w = .int .i64 a ∧ (Lit.int .i64 a).wf = true
      · obtain ⟨a, rfl, ha⟩ := e1
        obtain ⟨b, rfl, hb⟩ := e2
        refine ⟨(a, b), rfl, i64_of ha, i64_of hb, ?_⟩
        have := plc_key (i64_of ha) (i64_of hb)
        unfold plv at this
        rw [this] at h0
        injection h0 with h0
        exact h0.symm
      · rw [hno w e2] at h
        cases hk : Tryz.prog.keyLits (q + 1) 3 [u] with
        | none => rw [hk] at h; simp at h
        | some l => rw [hk] at h; simp at h
    · rw [hno u e1] at h
      simp at h
  · cases h

/-- An entry: a key, a day, what is there. -/
abbrev Ent := Int × Int × Int
def entV (t : Ent) : Value := .agg #[.int .i64 t.1, .int .i64 t.2.1, .int .i64 t.2.2]
def entK (t : Ent) : Lit := plk t.1 t.2.1
/-- The entries that have come; which are left. -/
structure Came (D : DataW Unit) (left : Lit → Bool) (ps : List Ent) : Prop where
  ok : ∀ t ∈ ps, I64 t.1 ∧ I64 t.2.1 ∧ I64 t.2.2
  val : ∀ t ∈ ps, ∀ zd, D.atKey (entK t) zd = intD t.2.2
  gone : ∀ t ∈ ps, left (entK t) = false
  nd : (ps.map entK).Nodup
  all : ∀ kl, Maps.has D kl = true → left kl = true ∨ ∃ t ∈ ps, entK t = kl
theorem Came.start (D : DataW Unit) : Came D (Maps.has D) [] := ⟨fun t h => (by cases h), fun t h => (by cases h), fun t h => (by cases h), List.nodup_nil, fun kl h => .inl h⟩
theorem Came.step {D : DataW Unit} {left : Lit → Bool} {ps : List Ent} (h : Came D left ps) {t : Ent} (hok : I64 t.1 ∧ I64 t.2.1 ∧ I64 t.2.2) (hl : left (entK t) = true) (hv : ∀ zd, D.atKey (entK t) zd = intD t.2.2) : Came D (fun z => left z && !z.sameKey (entK t)) (ps ++ [t]) := by
  refine ⟨fun u hu => ?_, fun u hu => ?_, fun u hu => ?_, ?_, fun kl hk => ?_⟩
  · rcases List.mem_append.1 hu with hu | hu
    · exact h.ok u hu
    · rw [List.mem_singleton.1 hu]; exact hok
  · rcases List.mem_append.1 hu with hu | hu
    · exact h.val u hu
    · rw [List.mem_singleton.1 hu]; exact hv
  · rcases List.mem_append.1 hu with hu | hu
    · rw [h.gone u hu]; rfl
    · rw [List.mem_singleton.1 hu]
      have hs : (entK t).sameKey (entK t) = true := WideAt.sameKey_self (plk_ok hok.1 hok.2.1)
      rw [hs]; simp
  · rw [List.map_append, List.nodup_append]
    refine ⟨h.nd, by simp, fun a ha b hb => ?_⟩
    obtain ⟨u, hu, rfl⟩ := List.mem_map.1 ha
    rw [List.map_singleton, List.mem_singleton] at hb
    intro e
    have := h.gone u hu
    rw [e, hb, hl] at this
    cases this
  · rcases h.all kl hk with h1 | ⟨u, hu, e⟩
    · cases hs : kl.sameKey (entK t) with
      | true => exact .inr ⟨t, by simp, (WideAt.sameKey_eq hs).symm⟩
      | false => exact .inl (by rw [h1]; rfl)
    · exact .inr ⟨u, by simp [hu], e⟩
/-- All have come. -/
def AllOf (D : DataW Unit) (ps : List Ent) : Prop := Came D (fun _ => false) ps
theorem Came.done {D : DataW Unit} {left : Lit → Bool} {ps : List Ent} (h : Came D left ps) (hl : ∀ kl, left kl = false) : AllOf D ps := by
  have e : left = fun _ => false := funext hl
  unfold AllOf; rw [← e]; exact h

set_option maxRecDepth 100000 in
set_option maxHeartbeats 2000000 in
theorem alli_in (F : Fence) (n : Nat) (hF : F = Fence.wide) (hn : 1 ≤ n) (l Bm b nn : Nat) (D : DataW Unit) (J Jx : List Ent → World → Prop)
    (hY : ∀ pre x W, J pre W → pre.length < Maps.size D → YieldAt F (n - 1) Tryz.prog l #[entV x] W fun e W' =>
      (e = .returned (.bool true) ∧ J (pre ++ [x]) W' ∧ KeepsWalks W W') ∨ (e = .returned (.bool false) ∧ Jx (pre ++ [x]) W'))
    (W : World) (hJ : AbidesFrom W.heap.size J) (hm : W.cell? ⟨Bm, 0, none⟩ = some (.map (some b))) (hown : W.ownsMap Tryz.prog 155 intElem b nn D) (h0 : J [] W) :
    CallsIn F n Tryz.prog 153 #[.func (.yield l) #[] #[], .pointer (some ⟨Bm, 0, none⟩)] W fun e W' => (∃ v, e = .returned v) ∧
      ((∃ ps, AllOf D ps ∧ J ps W') ∨ (∃ pre, (∃ left, Came D left pre) ∧ Jx pre W')) := by
  subst hF
  refine callsIn_of_wp Tryz.func153 rfl trivial ?_ rfl
  simp only [Tryz.ntmps153, List.size_toArray, List.length_cons, List.length_nil, Nat.reduceAdd, Nat.reduceSub, Array.replicate_succ, Array.replicate_zero, List.push_toArray, List.append_toArray, List.nil_append, List.cons_append]
  gi_wp2_with (first
    | (gi_at_range; refine wpListIn_range_own _ rfl _ 117 rfl 155 3 plc_law Tryz.underlying117 _ b nn _ rfl hown ?_; intro w0 hrg0 hg0 hs0)
    | gi_in)
  go_frame
  gi_loopw [3, 4] (fun _ _ wr => ∃ (left : Lit → Bool) (cnt : Nat) (ps : List Ent), wr.ranges Tryz.prog 155 intElem b W.heap.size nn D left cnt ∧ ps.length + cnt ≤ Maps.size D ∧ Came D left ps ∧ J ps wr ∧ W.heap.size ≤ wr.heap.size)
    (fun _ _ wr => wr.rangeLeft b W.heap.size)
  case atStart =>
    exact ⟨_, _, [], hrg0, by simp, Came.start D, hJ [] W w0 none h0 hg0 (fun r e => by cases e), hg0.size⟩
  case round =>
    obtain ⟨left, cnt, ps, hrg, hcs, hC, hJs, hsz⟩ := hrel
    gi_wp2_with (first
      | (gi_at_next; refine wpListIn_next_ranges _ rfl _ rfl 155 plc_law intElem (fun x : Int × Int => plv x.1 x.2) (Value.int .i64) (fun key kl hk => by obtain ⟨x, hx, _⟩ := plc_inv hk; exact ⟨x, hx⟩) (fun v y hv => by obtain ⟨c, rfl, _⟩ := plainElem_int_inv Tryz.underlying3 hv; exact ⟨c, rfl⟩) b W.heap.size nn _ _ _ rfl hrg ?_ ?_)
      | gi_in)
    · intro hc0 hl0
      gi_wp2
      go_end0
      exact ⟨⟨_, rfl⟩, .inl ⟨ps, hC.done hl0, hJs⟩⟩
    · intro ka kd c kl yd yp w2 cnt2 hkey hlk hv hat hrg2 hlt hg2 hs2 hen
      obtain ⟨x, ex, hx1, hx2, rfl⟩ := plc_inv hkey
      obtain ⟨rfl, rfl⟩ : ka = x.1 ∧ kd = x.2 := by unfold plv at ex; simpa using ex
      obtain ⟨c', ec, ez, hwc⟩ := plainElem_int_inv Tryz.underlying3 hv
      obtain rfl : c = c' := by simpa using ec
      obtain rfl : yd = .lit (.int .i64 c) := (Prod.mk.inj ez).1
      obtain ⟨ka, kd⟩ := x
      dsimp only at *
      have hJ2 : J ps w2 := hJ ps wr w2 (some W.heap.size) hJs hg2 (fun r e => by cases e; exact ⟨Nat.le_refl _, hrg.iter_walk⟩)
      have hJ3 : J ps (w2.alloc (.cells #[.int .i64 ka, .int .i64 kd] 155)) := hJ ps w2 _ none hJ2 (World.grownBy_alloc _ _ none) (fun r e => by cases e)
      have hrg3 := hrg2.alloc (.cells #[.int .i64 ka, .int .i64 kd] 155)
      obtain ⟨fn, tmps, assign, body, hy, hR⟩ := hY ps (ka, kd, c) _ hJ3 (by omega)
      have HC2 := Lib.hid (hC.step (t := (ka, kd, c)) ⟨hx1, hx2, i64_of hwc⟩ hlk hat)
      have HSz : Hid (W.heap.size ≤ (w2.alloc (.cells #[.int .i64 ka, .int .i64 kd] 155)).heap.size) := Lib.hid (by have := hg2.size; simp; omega)
      have HL := Lib.hid hlt
      have HRg := Lib.hid hrg3
      have HRo := Lib.hid hrg
      dsimp only [entV] at hy
      clear hs2 hkey hv ez ec ex hat hlk hJ2 hJ3 hJs hC hg2 hrg2 hrg3
      unfold plv at hen ⊢
      gi_wp2
      refine hR.mono ?_
      rintro e W3 (⟨rfl, hJ3, hk3⟩ | ⟨rfl, hJx3⟩)
      · have HRg3 := Lib.hid (HRg.out.of_walks hk3)
        have HJ3 := Lib.hid hJ3
        have HSz3 : Hid (W.heap.size ≤ W3.heap.size) := Lib.hid (Nat.le_trans HSz.out hk3.size)
        clear hJ3 hk3 hR hy hen
        gi_wp2
        go_roundw
        case rel => exact ⟨_, cnt2, ps ++ [(ka, kd, c)], HRg3.out, by have := HL.out; simp; omega, HC2.out, HJ3.out, HSz3.out⟩
        case measure => rw [HRg3.out.left_eq, HRo.out.left_eq]; exact HL.out
      · have HX := Lib.hid hJx3
        clear hJx3 hR hy hen
        gi_wp2
        refine bodyPost_ret (results_none rfl _ _ _) rfl ?_
        exact ⟨⟨_, rfl⟩, .inr ⟨ps ++ [(ka, kd, c)], ⟨_, HC2.out⟩, HX.out⟩⟩

/-- all: the map is boxed; the function value captures the box. -/
theorem all_make (v : Value) (w : World) (hv : ∃ b, v = .map b) : Calls Tryz.prog 124 #[v] w fun e w' => e = .returned (.func (.func 153) #[] #[.pointer (some ⟨w.heap.size, 0, none⟩)]) ∧ w' = w.alloc (.cells #[v] 117) := by
  obtain ⟨b, rfl⟩ := hv
  go_enter Tryz.func124, Tryz.ntmps124
  go_wp2_with fail
  go_ret
  exact ⟨rfl, rfl⟩
theorem all_stops (n : Nat) (hn : 1 ≤ n) (Bm b nn : Nat) (D : DataW Unit) (w : World) (hm : w.cell? ⟨Bm, 0, none⟩ = some (.map (some b))) (hown : w.ownsMap Tryz.prog 155 intElem b nn D) :
    SeqStopsA Fence.wide n Tryz.prog 153 #[.pointer (some ⟨Bm, 0, none⟩)] (fun x => #[entV x]) (AllOf D) (fun pre => ∃ left, Came D left pre) (Maps.size D) w := fun l J Jx W hW hJ _ hY h0 =>
  alli_in Fence.wide n rfl hn l Bm b nn D J Jx hY W hJ (keepF hW hm) (hown.kept (grown_below hW) (by simp)) h0

/-- The first day, by the entries that came. -/
structure FstA (ps : List Ent) (k f u p : Int) (d : Int) (is : Bool) : Prop where
  yes : is = true → ∃ t ∈ ps, t.1 = k ∧ t.2.2 = p ∧ f ≤ t.2.1 ∧ t.2.1 ≤ u ∧ t.2.1 = d
  low : ∀ t ∈ ps, t.1 = k → t.2.2 = p → f ≤ t.2.1 → t.2.1 ≤ u → is = true ∧ d ≤ t.2.1
  no : is = false → d = 0
theorem FstA.start (k f u p : Int) : FstA [] k f u p 0 false := ⟨fun h => (by cases h), fun t h => (by cases h), fun _ => rfl⟩
theorem FstA.same {ps : List Ent} {k f u p d : Int} {is : Bool} (h : FstA ps k f u p d is) (t : Ent) (hn : ¬ (t.1 = k ∧ t.2.2 = p ∧ f ≤ t.2.1 ∧ t.2.1 ≤ u) ∨ (is = true ∧ d ≤ t.2.1)) : FstA (ps ++ [t]) k f u p d is := by
  refine ⟨fun hi => ?_, fun x hx h1 h2 h3 h4 => ?_, h.no⟩
  · obtain ⟨x, hx, r⟩ := h.yes hi
    exact ⟨x, by simp [hx], r⟩
  · rcases List.mem_append.1 hx with hx | hx
    · exact h.low x hx h1 h2 h3 h4
    · rw [List.mem_singleton.1 hx] at h1 h2 h3 h4 ⊢
      rcases hn with hn | hn
      · exact absurd ⟨h1, h2, h3, h4⟩ hn
      · exact hn
theorem FstA.turn {ps : List Ent} {k f u p d : Int} {is : Bool} (h : FstA ps k f u p d is) (t : Ent) (ht : t.1 = k ∧ t.2.2 = p ∧ f ≤ t.2.1 ∧ t.2.1 ≤ u) (hn : is = false ∨ t.2.1 < d) : FstA (ps ++ [t]) k f u p t.2.1 true := by
  refine ⟨fun _ => ⟨t, by simp, ht.1, ht.2.1, ht.2.2.1, ht.2.2.2, rfl⟩, fun x hx h1 h2 h3 h4 => ⟨rfl, ?_⟩, fun h => (by cases h)⟩
  rcases List.mem_append.1 hx with hx | hx
  · obtain ⟨g1, g2⟩ := h.low x hx h1 h2 h3 h4
    rcases hn with hn | hn
    · rw [hn] at g1; cases g1
    · omega
  · rw [List.mem_singleton.1 hx]; exact Int.le_refl _

end Go.Proofs.YtgeneoamngfomaaGreatDoor

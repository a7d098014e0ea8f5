/-
  Package agenda: slices.AppendSeq, Collect, SortedFunc over items; All: what they answer.
-/
import Derived.Test.YtkfcaafjnolhgaaAgW
import Derived.Test.YtkfcaafjnolhgaaAgU
import Derived.Maps.OwnIn
namespace Go.Proofs.Ytkfcaafjnolhgaa
open Go.RowKit Go.Lib Go.Maps Go.Sort Go.Shelf
set_option linter.unusedVariables false
set_option linter.unusedSimpArgs false
attribute [local go_sem] Oper.semAt_some

theorem OwnX.isc {w : World} {base : Nat} {ty : TypeId} {v : Value} {t : List It} (h : OwnX itL 3 ty w base v t) : ∀ k, v.ownBlock = some k → ∃ o, w.heap[k]? = some o ∧ o.isCells = true ∧ o.isWalk = false := by
  intro k hk
  rcases h.2 with ⟨rfl, _⟩ | ⟨g, cap, cur, rfl, hb, hc, _⟩
  · cases hk
  · simp [Value.ownBlock] at hk
    subst hk
    exact ⟨_, hc, rfl, rfl⟩
theorem OwnX.turn {w w' : World} {base : Nat} {ty : TypeId} {v : Value} {t : List It} (h : OwnX itL 3 ty w base v t) {row : Option Nat} (hg : w.grownBy w' row) (hr : ∀ r, row = some r → ∃ o : Obj, w.heap[r]? = some o ∧ o.isCells = false) : OwnX itL 3 ty w' base v t := by
  cases hv : v.ownBlock with
  | none => exact h.kept hg (.inl hv)
  | some k =>
    refine h.kept hg (.inr fun e => ?_)
    obtain ⟨o, ho, hc, _⟩ := h.isc k hv
    obtain ⟨o', ho', hc'⟩ := hr k (by rw [← e, hv])
    rw [ho] at ho'
    cases ho'
    rw [hc] at hc'; cases hc'
theorem infoItm : (Try.prog.info? 31).map (fun i => (i.zero, i.size, i.bytes)) = some (some (.agg #[.int .i64 0, .int .i64 0, .int .i64 0]), 3, 24) := by kernel_rfl
theorem OwnX.slc {w : World} {base : Nat} {ty : TypeId} {v : Value} {t : List It} (h : OwnX itL 3 ty w base v t) : ∃ a n cap, n = t.length ∧ v = .slice a n cap := by
  obtain ⟨a, c, e⟩ := h.slice
  exact ⟨a, _, c, rfl, e⟩
/-- One item more, within a fence. -/
theorem wpListIn_append_it {F : Fence} {n : Nat} {w : World} {ops : Array Oper} {rest : List Oper} {o : Oper} {a : Act} {Q : Exit → Act → World → Prop} (hgd : o.guard = none) (s x : Operand)
    (ho : o.op = .call { callee := .builtin .append, args := #[s, x], argTypes := #[47, 47] })
    (base : Nat) (v : Value) (t : List It) (hs : a.eval s = v) (hown : OwnX itL 3 31 w base v t) (b : Nat) (u : It) (hx : a.eval x = .slice (some ⟨b, 0, none⟩) 1 1) (hu : ∀ j c, (itL u)[j]? = some c → w.cell? ⟨b, j, none⟩ = some c)
    (hlen : t.length ≤ 100000) (hbase : base ≤ w.heap.size)
    (h : ∀ v' w', OwnX itL 3 31 w' base v' (t ++ [u]) → w.grownBy w' v.ownBlock → (v'.ownBlock = v.ownBlock ∨ v'.ownBlock = some w.heap.size) → wpListIn F n Try.prog ops Q rest (a.put o.dst v') w') : wpListIn F n Try.prog ops Q (o :: rest) a w := by
  obtain ⟨i0, hi0, hz0, hz1, hz2⟩ := info_parts infoItm
  refine wpListIn_append_own_at _ hgd s x 47 ho base 31 i0 _ 3 24 Try.underlying47 hi0 hz0 hz1 hz2 rfl (by decide) v t.length (t.flatMap itL) hs hown ⟨b, 0, none⟩ 1 1 (itL u) hx rfl (fun j c hj => by rw [Go.WideShapes.add_plain, Nat.zero_add]; exact hu j c hj) (itL_one u) (by unfold maxLen; omega) (by omega) hbase ?_
  intro v' w' h1 h2 _ h3
  refine h v' w' ?_ h2 h3
  unfold OwnX
  rw [List.length_append, List.flatMap_append, List.flatMap_singleton]; exact h1
/-- Between two rounds: the slice, boxed. -/
def AppIt (w : World) (ps : List It) (W : World) : Prop :=
  ∃ v, Boxed W w.heap.size 47 v ∧ OwnX itL 3 31 W w.heap.size v ps ∧ Below w.heap.size w W
set_option maxRecDepth 100000 in
set_option maxHeartbeats 2000000 in
theorem appseq_it (Bs : Nat) (vs : Value) (m : List It) (hml : m.length ≤ 1000) (w : World) (hc : w.cell? ⟨Bs, 0, none⟩ = some vs) (hr : RowX itL 3 w vs m) :
    Calls Try.prog 53 #[.slice none 0 0, .func (.func 42) #[] #[.pointer (some ⟨Bs, 0, none⟩)]] w fun e w' =>
      ∃ v, e = .returned v ∧ OwnX itL 3 31 w' w.heap.size v m ∧ Below w.heap.size w w' := by
  obtain ⟨n, hn⟩ : ∃ n : Nat, 4 ≤ n := ⟨4, by omega⟩
  have h1 : 1 ≤ n := by omega
  refine callsIn_wide.1 (callsIn_of_wp_marks (n := n) Try.func53 rfl trivial ?_ rfl)
  simp only [Try.ntmps53, List.size_toArray, List.length_cons, List.length_nil, Nat.reduceAdd, Nat.reduceSub, Array.replicate_succ, Array.replicate_zero, List.push_toArray, List.append_toArray, List.nil_append, List.cons_append]
  gi_wp2
  have bx := Boxed.new w 47 (.slice none 0 0)
  have hb := newF w (.cells #[.slice none 0 0] 47)
  have hst := vals_it (n - 1) (by omega) Bs vs m (by omega) w hc hr
  have hz : (w.alloc (.cells #[.slice none 0 0] 47)).heap.size = w.heap.size + 1 := by simp
  generalize w.alloc (.cells #[.slice none 0 0] 47) = W1 at *
  refine wpIn_rangeFunc_ownH rfl h1 (gf := 42) (lb := #[.pointer (some ⟨Bs, 0, none⟩)]) rfl trivial (enters_of Try.func42 (by kernel_rfl) rfl)
    hst (fun h h' => h.trans h') (fun W l o o' h1 h2 h3 h4 => belowK_b (w := W1) (by omega) W l o o' h1 h2 h3 h4) hb (fun x => rfl)
    (AppIt w)
    (fun _ _ _ => False)
    (fun s A C row hs hg hr => by
      obtain ⟨v, h2, h3, h4⟩ := hs
      exact ⟨v, h2.kept hg (fun e' => by obtain ⟨o, ho, hc⟩ := (hr _ e'.symm).2; rw [show A.heap[w.heap.size]? = _ from h2] at ho; cases ho; cases hc), h3.turn hg (fun r e => (hr r e).2), h4.grown hg h4.size (fun j hj => by have := (hr j hj).1; omega)⟩)
    (fun _ _ _ _ _ hs _ _ => hs)
    ⟨_, bx, OwnX.nil _ _ _ _ _, hb⟩
    (fun x a' W => ∃ X, a' = { tmps := #[.slice none 0 0, .func (.func 42) #[] #[.pointer (some ⟨Bs, 0, none⟩)], .pointer (some ⟨w.heap.size, 0, none⟩), undef, .slice none 0 0, .pointer (some ⟨X, 0, none⟩), .func (.func 42) #[] #[.pointer (some ⟨Bs, 0, none⟩)], .agg (itL x).toArray, undef, undef, undef, undef, undef], defers := [] } ∧ ∀ j c, (itL x)[j]? = some c → W.cell? ⟨X, j, none⟩ = some c)
    (fun x a' s A C row hs hg hr => by
      obtain ⟨X, e, h2⟩ := hs
      exact ⟨X, e, fun j c hj => cell_kept (h2 j c hj) hg (fun r e => (hr r e).2)⟩)
    ?assign ?body ?done ?stop
  case assign =>
    rintro l pre x W K ⟨v, h2, h3, h4⟩ hK
    dsimp only [itL]
    gi_wp2
    refine hK _ _ (KeepsFrom.of_grownBy (World.grownBy_alloc W _ none) (fun j e => by cases e)) ((Below.refl _ W).alloc h4.size _) ⟨v, h2.alloc _, h3.turn (World.grownBy_alloc W _ none) (fun r e => by cases e), onF h4 (newF _ _)⟩ ⟨W.heap.size, rfl, fun j c hj => ?_⟩
    rw [World.cell?_alloc_at _ _ _ _ rfl]
    simpa [itL] using hj
  case body =>
    rintro l pre x a' W hl hr ⟨v, h2, h3, h4⟩ ⟨X, rfl, hx⟩ hlt
    have c0 := h2.cell
    have f0 := h2.frozen
    have x0 := hx 0 _ rfl
    have x1 := hx 1 _ rfl
    have x2 := hx 2 _ rfl
    have hsW := h4.size
    dsimp only [itL]
    gi_wp2_with (first
      | (gi_at_builtin; refine wpListIn_append_it rfl _ _ rfl w.heap.size v pre rfl (h3.turn (World.grownBy_alloc W _ none) (fun r e => by cases e)) W.heap.size x rfl (fun j c hj => by rw [World.cell?_alloc_at _ _ _ _ rfl]; simpa [itL] using hj) (by omega) (by simp; omega) ?_; intro v' w' hv' hg' hat'; obtain ⟨sa, sn, sc, hsn, rfl⟩ := hv'.slc; clear hsn; obtain ⟨hv1, hv2, hr2, hk2, hb2⟩ := h2.appended (by decide) h3 h4.size (Nat.le_refl _) hv' hg'; have hc1 := hv1.cell; have hf1 := hv1.frozen)
      | gi_in)
    exact ⟨hk2.from _, hb2, ⟨_, hv2, hr2, h4.trans hb2⟩⟩
  case done =>
    rintro D ys W hD rfl ⟨v, h2, h3, h4⟩ hK
    have hc := h2.cell
    obtain ⟨sa, sc, rfl⟩ := h3.slice
    gi_wp2
    refine ⟨by simp, .inl ⟨_, _, rfl, run_takeDeferred hK, ?_⟩⟩
    exact ⟨_, results_tmp rfl _ _ _, _, rfl, h3.turn (grownBy_putObj' W D _) (fun r e => by cases e; exact ⟨_, hK, rfl⟩), h4.trans (belowK_b (w := w) (Nat.le_refl _) W D _ _ (by omega) hK rfl rfl)⟩
  case stop =>
    rintro D c pre W _ _ h _
    exact h.elim
set_option maxRecDepth 100000 in
theorem collect_it (Bs : Nat) (vs : Value) (m : List It) (hml : m.length ≤ 1000) (w : World) (hc : w.cell? ⟨Bs, 0, none⟩ = some vs) (hr : RowX itL 3 w vs m) :
    Calls Try.prog 43 #[.func (.func 42) #[] #[.pointer (some ⟨Bs, 0, none⟩)]] w fun e w' =>
      ∃ v, e = .returned v ∧ OwnX itL 3 31 w' w.heap.size v m ∧ Below w.heap.size w w' := by
  have HA := Lib.hid (appseq_it Bs vs m hml w hc hr)
  clear hc hr hml
  go_enter Try.func43, Try.ntmps43
  go_wp2_with fail
  refine HA.out.mono ?_
  rintro e w1 ⟨v, rfl, ho, hb⟩
  have HO := Lib.hid ho
  have HB := Lib.hid hb
  obtain ⟨sa, sc, rfl⟩ := ho.slice
  clear ho hb HA
  go_wp2_with fail
  go_ret
  exact ⟨_, rfl, HO.out, HB.out⟩
set_option maxRecDepth 100000 in
theorem sortedf_it (Bs : Nat) (vs : Value) (m : List It) (hml : m.length ≤ 1000) (w : World) (hc : w.cell? ⟨Bs, 0, none⟩ = some vs) (hr : RowX itL 3 w vs m) :
    Calls Try.prog 33 #[.func (.func 42) #[] #[.pointer (some ⟨Bs, 0, none⟩)], .func (.func 35) #[] #[]] w fun e w' =>
      ∃ v m', e = .returned v ∧ m'.Pairwise (fun a b => ¬ bfI b a) ∧ m'.Perm m ∧ OwnX itL 3 31 w' w.heap.size v m' ∧ Below w.heap.size w w' := by
  have HA := Lib.hid (collect_it Bs vs m hml w hc hr)
  have HL := Lib.hid hml
  clear hc hr hml
  go_enter Try.func33, Try.ntmps33
  go_wp2_with fail
  refine HA.out.mono ?_
  rintro e w1 ⟨v, rfl, ho, hb⟩
  have HS := Lib.hid (sortit ho (by have := HL.out; omega))
  have HO := Lib.hid ho
  have HB := Lib.hid hb
  obtain ⟨sa, sc, rfl⟩ := ho.slice
  clear ho hb HA
  go_wp2_with fail
  refine HS.out.mono ?_
  rintro e w2 ⟨rfl, m', hp, hpm, ho2, hg2⟩
  have HR := Lib.hid (And.intro hp (And.intro hpm ho2))
  have HB2 : Hid (Below w.heap.size w w2) := Lib.hid (HB.out.grown hg2 HB.out.size (fun j hj => (HO.out.lt j hj).1))
  clear hp hpm ho2 hg2 HS HO HB
  go_wp2_with fail
  go_ret
  exact ⟨_, m', rfl, HR.out.1, HR.out.2.1, HR.out.2.2, HB2.out⟩

end Go.Proofs.Ytkfcaafjnolhgaa

/-
  Package agenda: All; chattellaw11.items: what they answer.
-/
import Derived.Test.YtkfcaafjnolhgaaAgX
namespace Go.Proofs.Ytkfcaafjnolhgaa
open Go.RowKit Go.Lib Go.Maps Go.Sort Go.Shelf
set_option linter.unusedVariables false
set_option linter.unusedSimpArgs false
attribute [local go_sem] Oper.semAt_some

set_option maxRecDepth 100000 in
theorem qall_any (w : World) {base q bm : Nat} {lv : Value} {l : List It} {D : DataW Unit} (h : QuM w base q bm lv l D) : Calls Try.prog 34 #[.pointer (some ⟨q, 0, none⟩)] w fun e w' => e = .returned (.func (.func 42) #[] #[.pointer (some ⟨w.heap.size, 0, none⟩)]) ∧ w' = w.alloc (.cells #[lv] 47) := by
  have c0 := h.c0
  obtain ⟨a, c, rfl⟩ := h.hl.slice
  have HV := Lib.hid (vals_make (.slice a l.length c) ⟨_, _, _, rfl⟩ w)
  clear h
  go_enter Try.func34, Try.ntmps34
  go_wp2_with fail
  refine HV.out.mono ?_
  rintro e w1 ⟨rfl, rfl⟩
  clear HV
  go_wp2_with fail
  go_ret
  exact ⟨rfl, rfl⟩
/-- What is sorted is the list, once the numbers differ. -/
theorem AgV.sorted {w : World} {base a q bm n : Nat} {lv : Value} {L l m : List It} (h : AgV w base a q bm lv L n) (hp : l.Perm L) (hm : m.Pairwise (fun a b => ¬ bfI b a)) (hml : m.Perm l) : m = L := by
  have hno : L.Pairwise (fun a b => a.no ≠ b.no) := (List.Pairwise.and_mem.1 h.sr).imp (fun {a b} ⟨ha, hb, hab⟩ e => by
    have := h.noeq a ha b hb e
    subst this
    exact bfI_irr _ hab)
  have hpm := hml.trans hp
  have hno' : m.Pairwise (fun a b => a.no ≠ b.no) := (hpm.pairwise_iff (fun {a b} (h : a.no ≠ b.no) => Ne.symm h)).2 hno
  exact srI_uniq (srt_of hm hno') h.sr (fun x => hpm.mem_iff)
set_option maxRecDepth 100000 in
set_option maxHeartbeats 2000000 in
theorem aall_any (w : World) {base a q bm n : Nat} {lv : Value} {L : List It} (h : AgV w base a q bm lv L n) (hl : L.length ≤ 1000) : Calls Try.prog 21 #[.pointer (some ⟨a, 0, none⟩)] w fun e w' => ∃ Bs v, e = .returned (.func (.func 42) #[] #[.pointer (some ⟨Bs, 0, none⟩)]) ∧ w'.cell? ⟨Bs, 0, none⟩ = some v ∧ OwnX itL 3 31 w' w.heap.size v L ∧ Below w.heap.size w w' := by
  obtain ⟨l, D, hq, hp⟩ := h.qv
  have c0 := h.c0
  have HQ := Lib.hid (qall_any w hq.m)
  have hb := newF w (.cells #[lv] 47)
  have hcell : (w.alloc (.cells #[lv] 47)).cell? ⟨w.heap.size, 0, none⟩ = some lv := by rw [World.cell?_alloc_at _ _ _ _ rfl]; rfl
  have hrow := (hq.m.hl.row (E := itL) (k := 3) itL_len).keep hb
  have HS := Lib.hid (sortedf_it w.heap.size lv l (by rw [hp.length_eq]; exact hl) _ hcell hrow)
  have HK := Lib.hid (fun m h1 h2 => h.sorted (m := m) hp h1 h2)
  have HB := Lib.hid hb
  clear h hq hp hl hb hcell hrow
  go_enter Try.func21, Try.ntmps21
  go_wp2_with fail
  refine HQ.out.mono ?_
  rintro e w1 ⟨rfl, rfl⟩
  clear HQ
  go_wp2_with fail
  refine HS.out.mono ?_
  rintro e w2 ⟨v, m', rfl, h1, h2, ho, hb2⟩
  have he := HK.out m' h1 h2
  subst he
  have HO := Lib.hid (ho.base (a := w.heap.size) (by simp))
  have HB2 := Lib.hid (onF HB.out hb2)
  obtain ⟨sa, sc, rfl⟩ := ho.slice
  have HV := Lib.hid (vals_make (.slice sa m'.length sc) ⟨_, _, _, rfl⟩ w2)
  clear h1 h2 ho hb2 HS HK HB
  go_wp2_with fail
  refine HV.out.mono ?_
  rintro e w3 ⟨rfl, rfl⟩
  clear HV
  go_wp2_with fail
  go_ret
  exact ⟨w2.heap.size, _, rfl, by rw [World.cell?_alloc_at _ _ _ _ rfl]; rfl, HO.out.grown (newF _ _), onF HB2.out (newF _ _)⟩
set_option maxRecDepth 100000 in
set_option maxHeartbeats 2000000 in
theorem items_any {w : World} {base a q bm n : Nat} {lv : Value} {L : List It} (h : AgV w base a q bm lv L n) (hl : L.length ≤ 300) :
    Calls Try.prog 18 #[.pointer (some ⟨a, 0, none⟩)] w fun e w' => ∃ v, e = .returned v ∧ OwnX itL 3 31 w' w.heap.size v L ∧ Below w.heap.size w w' := by
  have HT := Lib.hid (aall_any w h (by omega))
  obtain ⟨n, hn⟩ : ∃ n : Nat, 4 ≤ n := ⟨4, by omega⟩
  have h1 : 1 ≤ n := by omega
  clear h
  refine callsIn_wide.1 (callsIn_of_wp_marks (n := n) Try.func18 rfl trivial ?_ rfl)
  simp only [Try.ntmps18, List.size_toArray, List.length_cons, List.length_nil, Nat.reduceAdd, Nat.reduceSub, Array.replicate_succ, Array.replicate_zero, List.push_toArray, List.append_toArray, List.nil_append, List.cons_append]
  gi_wp2
  refine wideA HT.out ?_
  rintro e w1 ⟨Bs, vs, rfl, hcs, hos, hb0⟩
  have hq := fnil_eqA
  clear HT
  gi_wp2
  have bx := Boxed.new w1 47 (.slice none 0 0)
  have hb := newF w1 (.cells #[.slice none 0 0] 47)
  have hst := vals_it (n - 1) (by omega) Bs vs L (by omega) w1 hcs (hos.row (E := itL) (k := 3) itL_len)
  have hz : (w1.alloc (.cells #[.slice none 0 0] 47)).heap.size = w1.heap.size + 1 := by simp
  have hz0 := hb0.size
  generalize w1.alloc (.cells #[.slice none 0 0] 47) = W1 at *
  refine wpIn_rangeFunc_ownH rfl h1 (gf := 42) (lb := #[.pointer (some ⟨Bs, 0, none⟩)]) rfl trivial (enters_of Try.func42 (by kernel_rfl) rfl)
    hst (fun h h' => h.trans h') (fun W l o o' h1 h2 h3 h4 => belowK_b (w := W1) (by omega) W l o o' h1 h2 h3 h4) hb (fun x => rfl)
    (AppIt w1)
    (fun _ _ _ => False)
    (fun s A C row hs hg hr => by
      obtain ⟨v, h2, h3, h4⟩ := hs
      exact ⟨v, h2.kept hg (fun e' => by obtain ⟨o, ho, hc⟩ := (hr _ e'.symm).2; rw [show A.heap[w1.heap.size]? = _ from h2] at ho; cases ho; cases hc), h3.turn hg (fun r e => (hr r e).2), h4.grown hg h4.size (fun j hj => by have := (hr j hj).1; omega)⟩)
    (fun _ _ _ _ _ hs _ _ => hs)
    ⟨_, bx, OwnX.nil _ _ _ _ _, hb⟩
    (fun x a' W => ∃ X, a' = { tmps := #[.pointer (some ⟨a, 0, none⟩), undef, .slice none 0 0, .func (.func 42) #[] #[.pointer (some ⟨Bs, 0, none⟩)], .pointer (some ⟨w1.heap.size, 0, none⟩), .pointer (some ⟨X, 0, none⟩), .pointer (some ⟨a, 0, none⟩), .func (.func 42) #[] #[.pointer (some ⟨Bs, 0, none⟩)], .func (.func 42) #[] #[.pointer (some ⟨Bs, 0, none⟩)], .bool false, .func (.func 42) #[] #[.pointer (some ⟨Bs, 0, none⟩)], .agg (itL x).toArray, undef, undef, undef, undef, undef, undef, undef, undef], defers := [] } ∧ ∀ j c, (itL x)[j]? = some c → W.cell? ⟨X, j, none⟩ = some c)
    (fun x a' s A C row hs hg hr => by
      obtain ⟨X, e, h2⟩ := hs
      exact ⟨X, e, fun j c hj => cell_kept (h2 j c hj) hg (fun r e => (hr r e).2)⟩)
    ?assign ?body ?done ?stop
  case assign =>
    rintro l pre x W K ⟨v, h2, h3, h4⟩ hK
    dsimp only [itL]
    gi_wp2
    refine hK _ _ (KeepsFrom.of_grownBy (World.grownBy_alloc W _ none) (fun j e => by cases e)) ((Below.refl _ W).alloc h4.size _) ⟨v, h2.alloc _, h3.turn (World.grownBy_alloc W _ none) (fun r e => by cases e), onF h4 (newF _ _)⟩ ⟨W.heap.size, rfl, fun j c hj => ?_⟩
    rw [World.cell?_alloc_at _ _ _ _ rfl]
    simpa [itL] using hj
  case body =>
    rintro l pre x a' W hl2 hr ⟨v, h2, h3, h4⟩ ⟨X, rfl, hx⟩ hlt
    have c0 := h2.cell
    have f0 := h2.frozen
    have x0 := hx 0 _ rfl
    have x1 := hx 1 _ rfl
    have x2 := hx 2 _ rfl
    have hsW := h4.size
    dsimp only [itL]
    gi_wp2_with (first
      | (gi_at_builtin; refine wpListIn_append_it rfl _ _ rfl w1.heap.size v pre rfl (h3.turn (World.grownBy_alloc W _ none) (fun r e => by cases e)) W.heap.size x rfl (fun j c hj => by rw [World.cell?_alloc_at _ _ _ _ rfl]; simpa [itL] using hj) (by omega) (by simp; omega) ?_; intro v' w' hv' hg' hat'; obtain ⟨sa, sn, sc, hsn, rfl⟩ := hv'.slc; obtain ⟨hv1, hv2, hr2, hk2, hb2⟩ := h2.appended (by decide) h3 h4.size (Nat.le_refl _) hv' hg'; have hc1 := hv1.cell; have hf1 := hv1.frozen; have hc2 := hv2.cell; (have hs5 : ¬ (300 : Int) < (sn : Int) := by (rw [List.length_append] at hsn; simp at hsn; omega)); clear hsn)
      | gi_in)
    exact ⟨hk2.from _, hb2, ⟨_, hv2, hr2, h4.trans hb2⟩⟩
  case done =>
    rintro D ys W hD rfl ⟨v, h2, h3, h4⟩ hK
    have hc := h2.cell
    obtain ⟨sa, sc, rfl⟩ := h3.slice
    gi_wp2
    refine ⟨by simp, .inl ⟨_, _, rfl, run_takeDeferred hK, ?_⟩⟩
    exact ⟨_, results_tmp rfl _ _ _, _, rfl, (h3.turn (grownBy_putObj' W D _) (fun r e => by cases e; exact ⟨_, hK, rfl⟩)).base hz0, (onF hb0 h4).trans (belowK_b (w := w) (Nat.le_refl _) W D _ _ (by omega) hK rfl rfl)⟩
  case stop =>
    rintro D c pre W _ _ h _
    exact h.elim

end Go.Proofs.Ytkfcaafjnolhgaa

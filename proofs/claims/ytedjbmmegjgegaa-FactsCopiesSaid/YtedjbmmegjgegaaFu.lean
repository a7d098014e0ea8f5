/-
  Package facts: slices.SortFunc at facts of either kind, on a slice of one's own.
-/
import Derived.Test.YtedjbmmegjgegaaFs
import Derived.Test.YtedjbmmegjgegaaShelf
import Derived.Test.YtedjbmmegjgegaaFn
namespace Go.Proofs.Ytedjbmmegjgegaa
open Go.RowKit Go.Lib Go.Maps Go.Sort Go.Shelf
set_option linter.unusedVariables false
set_option linter.unusedSimpArgs false

theorem flat_len {E : Fct → List Value} {k : Nat} (hk : ∀ t, (E t).length = k) : ∀ l : List Fct, (l.flatMap E).length = l.length * k
  | [] => by simp
  | t :: l => by rw [List.flatMap_cons, List.length_append, flat_len hk l, hk, List.length_cons, Nat.add_mul, Nat.one_mul, Nat.add_comm]
theorem flat_get {E : Fct → List Value} {k : Nat} (hk : ∀ t, (E t).length = k) : ∀ (l : List Fct) (j i : Nat), j < l.length → i < k → (l.flatMap E)[j * k + i]? = (E (l.getD j default))[i]?
  | [], j, i, hj, _ => absurd hj (Nat.not_lt_zero _)
  | t :: l, 0, i, _, hi => by
    rw [List.flatMap_cons, Nat.zero_mul, Nat.zero_add, List.getElem?_append_left (by rw [hk]; exact hi)]
    rfl
  | t :: l, j + 1, i, hj, hi => by
    rw [List.flatMap_cons, List.getElem?_append_right (by rw [hk, Nat.add_mul]; omega), hk, show (j + 1) * k + i - k = j * k + i by rw [Nat.add_mul]; omega, flat_get hk l j i (by simpa using hj) hi]
    simp [List.getD_eq_getElem?_getD]
theorem flatK_list {E : Fct → List Value} {k : Nat} (hk : ∀ t, (E t).length = k) (k0 : 0 < k) (l : List Fct) : flatK E k l.toArray = (l.flatMap E).toArray := by
  refine ext_get! (by simp [flat_len hk]) fun t ht => ?_
  have ht' : t < l.length * k := by simpa using ht
  rw [get_flatK _ _ _ t (by simpa using ht')]
  have hq : t / k < l.length := Nat.div_lt_of_lt_mul (by rw [Nat.mul_comm]; exact ht')
  have hr : t % k < k := Nat.mod_lt _ k0
  have hg := flat_get hk l (t / k) (t % k) hq hr
  have et : t / k * k + t % k = t := by rw [Nat.mul_comm]; exact Nat.div_add_mod t k
  rw [et] at hg
  have e1 : (l.flatMap E).toArray[t]! = ((l.flatMap E)[t]?).getD default := by simp
  rw [e1, hg]
  have e2 : l.toArray[t / k]! = l.getD (t / k) default := by simp [List.getD_eq_getElem?_getD]
  rw [e2]
  simp
theorem holds_of_blockV {w : World} {g : Nat} {cur : Array Value} {e : TypeId} {xs : List Value} (hb : w.heap[g]? = some (.cells cur e (0, 0))) (ht : cur.toList.take xs.length = xs) : Holds id w g 0 xs.toArray := by
  intro j hj
  have hj' : j < xs.length := by simpa using hj
  refine ⟨?_, by simp [World.frozen?, hb]⟩
  have h1 : (cur.toList.take xs.length)[j]? = xs[j]? := by rw [ht]
  rw [List.getElem?_take_of_lt hj'] at h1
  simp only [World.cell?, hb, Nat.zero_add]
  simp only [Option.isSome_none, Bool.false_eq_true, if_false]
  rw [← Array.getElem?_toList, h1]
  simp [hj']
theorem heap_sortedV {w : World} {g n : Nat} {os : Array Obj} {cur : Array Value} {e : TypeId} {fr : Nat × Nat} (d : Array Value) (hb : w.heap[g]? = some (.cells cur e fr)) :
    (grow (putRow id (Sort.ahead w n) g 0 d) os).heap[g]? = some (.cells (putCells id 0 d cur) e fr) := by
  have hg : g < w.heap.size := (Array.getElem?_eq_some_iff.1 hb).1
  rw [heap_grow_old _ _ (by simpa using hg)]
  simp [putRow, mapBlock, Sort.ahead, Array.getElem?_modify, hb, onCells]
theorem grownBy_sortedV {w : World} {g n : Nat} {os : Array Obj} (d : Array Value) : w.grownBy (grow (putRow id (Sort.ahead w n) g 0 d) os) (some g) := by
  refine ⟨rfl, rfl, rfl, by simp, fun k hk hne => ?_⟩
  rw [heap_grow_old _ _ (by simpa using hk)]
  have : g ≠ k := fun e => hne (by rw [e])
  simp [putRow, mapBlock, Sort.ahead, Array.getElem?_modify, this]
theorem take_putCellsV (cur : Array Value) (ts : List Value) (h : ts.length ≤ cur.size) : (putCells id 0 ts.toArray cur).toList.take ts.length = ts := by
  apply List.ext_getElem?
  intro j
  by_cases hj : j < ts.length
  · rw [List.getElem?_take_of_lt hj, Array.getElem?_toList]
    simp [putCells, hj, show j < cur.size by omega]
  · rw [List.getElem?_take_eq_none (by omega), List.getElem?_eq_none (by omega)]
/-- A sort of structs of the call's own. -/
theorem sort_own {E : Fct → List Value} {k : Nat} {ty : TypeId} (hk : ∀ t, (E t).length = k) (k0 : 0 < k) {P : Program} {fs : Nat} {fv : Value} {w : World}
    (hN : ∀ (p : Option Addr) (cap : Nat), Calls P fs #[.slice p 0 cap, fv] w fun e w' => e = .returned (.tuple #[]) ∧ w' = w)
    (hS : ∀ (blk cap : Nat) (d : Array Fct), HoldsK E k w blk 0 d → blk < w.heap.size → d.size < 4611686018427387904 → Calls P fs #[.slice (some ⟨blk, 0, none⟩) d.size cap, fv] w fun e w' => e = .returned (.tuple #[]) ∧ ∃ d' n os, PermIn 0 d.size d d' ∧ SortedIn (ltOf cfT) 0 d.size d' ∧ w' = sortWorldK E k w blk 0 n d' os)
    {base : Nat} {v : Value} {ps : List Fct} (ho : OwnV E k ty w base v ps) (hn : (ps.map plT).Nodup) (hl : ps.length ≤ 100000) :
    Calls P fs #[v, fv] w fun e w' => e = .returned (.tuple #[]) ∧ ∃ m, Srt m ∧ m.Perm ps ∧ OwnV E k ty w' base v m ∧ w.grownBy w' v.ownBlock := by
  obtain ⟨h1, h2⟩ := id ho
  have self : ∀ e (w' : World), e = Ending.returned (.tuple #[]) ∧ w' = w → ps.length = 0 → e = .returned (.tuple #[]) ∧ ∃ m, Srt m ∧ m.Perm ps ∧ OwnV E k ty w' base v m ∧ w.grownBy w' v.ownBlock := by
    rintro e w' ⟨rfl, rfl⟩ h0
    have hps : ps = [] := List.length_eq_zero_iff.1 h0
    subst hps
    exact ⟨rfl, [], List.Pairwise.nil, List.Perm.refl _, ho, rfl, rfl, rfl, Nat.le_refl _, fun _ _ _ => rfl⟩
  rcases h2 with ⟨rfl, h0⟩ | ⟨g, cap, cur, rfl, hb, hc, hnc, hm, hz, ht⟩
  · exact (hN none 0).mono fun e w' h => self e w' h h0
  · by_cases h0 : ps.length = 0
    · rw [h0]
      rw [h0] at self
      exact (hN _ cap).mono fun e w' h => by
        have := self e w' h rfl
        exact this
    · have hH : HoldsK E k w g 0 ps.toArray := by
        unfold HoldsK
        rw [flatK_list hk k0]
        exact holds_of_blockV hc (by rw [h1]; exact ht)
      have hlt : g < w.heap.size := (Array.getElem?_eq_some_iff.1 hc).1
      have := hS g cap ps.toArray hH hlt (by simp; omega)
      rw [List.size_toArray] at this
      refine this.mono ?_
      rintro e w' ⟨rfl, d', q, os, hp, hs, rfl⟩
      have hp' : PermIn 0 ps.toArray.size ps.toArray d' := by rw [List.size_toArray]; exact hp
      have hs' : SortedIn (ltOf cfT) 0 ps.toArray.size d' := by rw [List.size_toArray]; exact hs
      obtain ⟨hsr, hpm⟩ := sorted_srt hp' hs' hn
      have hml : d'.toList.length = ps.length := hpm.length_eq
      have ed : flatK E k d' = (d'.toList.flatMap E).toArray := by rw [← flatK_list hk k0 d'.toList]
      refine ⟨rfl, d'.toList, hsr, hpm, ⟨by rw [flat_len hk], .inr ⟨g, cap, putCells id 0 (flatK E k d') cur, by rw [hml], hb, ?_, by omega, hm, by simp [putCells, hz], ?_⟩⟩, ?_⟩
      · exact heap_sortedV _ hc
      · rw [ed, hml, ← hml, ← flat_len hk d'.toList]
        exact take_putCellsV cur _ (by rw [flat_len hk, hml, hz]; exact Nat.mul_le_mul_right k hnc)
      · exact grownBy_sortedV _

end Go.Proofs.Ytedjbmmegjgegaa

namespace Go.Proofs.Ytedjbmmegjgegaa
open Go.RowKit Go.Lib Go.Maps Go.Sort Go.Shelf
set_option linter.unusedVariables false
set_option linter.unusedSimpArgs false

set_option maxRecDepth 100000 in
theorem sortfv_r {w : World} {base : Nat} {v : Value} {ps : List Fct} (ho : OwnV rtL 4 92 w base v ps) (hn : (ps.map plT).Nodup) (hl : ps.length ≤ 100000) :
    Calls Try.prog 68 #[v, .func (.func 57) #[] #[]] w fun e w' => e = .returned (.tuple #[]) ∧ ∃ m, Srt m ∧ m.Perm ps ∧ OwnV rtL 4 92 w' base v m ∧ w.grownBy w' v.ownBlock := by
  have eg : ∀ args w, (callFunc 57 args).run Try.prog w = .ok (.enter 57 args) w := enters_of Try.func57 (by kernel_rfl) rfl
  refine sort_own (E := rtL) (k := 4) (fun _ => rfl) (by decide) (fun p cap => ?_) (fun blk cap d hH hb hs => ?_) ho hn hl
  · have h := AnyF.slices_SortFunc_none (P := Try.prog) (ρ := Try.sortR_ren) Try.sortR p cap (.func (.func 57) #[] #[]) w
    exact h
  · have h := AnyQ.slices_SortFunc Try.sortR 4 Try.isAgg92 Try.sizeOf92 rtL (fun _ => rfl) (fun t u hu => by unfold rtL at hu; simp at hu; rcases hu with rfl | rfl | rfl | rfl <;> rfl) cfT swo_cfT 57 #[] blk 0 cap d w eg (fun _ _ _ _ x y => inorder1_r _ x.k x.d x.x x.y y.k y.d y.x y.y) hH hb hs
    exact h
set_option maxRecDepth 100000 in
theorem sortfv_i {w : World} {base : Nat} {v : Value} {ps : List Fct} (ho : OwnV chL 3 87 w base v ps) (hn : (ps.map plT).Nodup) (hl : ps.length ≤ 100000) :
    Calls Try.prog 72 #[v, .func (.func 61) #[] #[]] w fun e w' => e = .returned (.tuple #[]) ∧ ∃ m, Srt m ∧ m.Perm ps ∧ OwnV chL 3 87 w' base v m ∧ w.grownBy w' v.ownBlock := by
  have eg : ∀ args w, (callFunc 61 args).run Try.prog w = .ok (.enter 61 args) w := enters_of Try.func61 (by kernel_rfl) rfl
  refine sort_own (E := chL) (k := 3) (fun _ => rfl) (by decide) (fun p cap => ?_) (fun blk cap d hH hb hs => ?_) ho hn hl
  · have h := AnyF.slices_SortFunc_none (P := Try.prog) (ρ := Try.sortI_ren) Try.sortI p cap (.func (.func 61) #[] #[]) w
    exact h
  · have h := AnyQ.slices_SortFunc Try.sortI 3 Try.isAgg87 Try.sizeOf87 chL (fun _ => rfl) (fun t u hu => by unfold chL at hu; simp at hu; rcases hu with rfl | rfl | rfl <;> rfl) cfT swo_cfT 61 #[] blk 0 cap d w eg (fun _ _ _ _ x y => inorder1_i _ x.k x.d x.p y.k y.d y.p) hH hb hs
    exact h

set_option maxRecDepth 100000 in
theorem sortedv_r (Bm b nn : Nat) (D : DataW Unit) (w : World) (hm : w.cell? ⟨Bm, 0, none⟩ = some (.map (some b))) (hown : w.ownsMap Try.prog 85 ratElem b nn D) (hD : Maps.size D ≤ 100000) :
    Calls Try.prog 55 #[.func (.func 69) #[] #[.pointer (some ⟨Bm, 0, none⟩)], .func (.func 57) #[] #[]] w fun e w' =>
      ∃ v m ps, e = .returned v ∧ Srt m ∧ m.Perm ps ∧ AllV vR nR D ps ∧ OwnV rtL 4 92 w' w.heap.size v m ∧ Below w.heap.size w w' := by
  have HC := Lib.hid (collectv_r Bm b nn D w hm hown hD)
  clear hm hown
  go_enter Try.func55, Try.ntmps55
  go_wp2_with fail
  refine HC.out.mono ?_
  rintro e w1 ⟨v, ps, rfl, hall, ho, hb⟩
  have HS := Lib.hid (sortfv_r ho hall.1.nd (Nat.le_trans hall.2 hD))
  have HAll := Lib.hid hall
  have HO := Lib.hid ho
  have HB := Lib.hid hb
  obtain ⟨sa, sn, sc, rfl⟩ := ho.slice
  clear hall ho hb HC hD
  go_wp2_with fail
  refine HS.out.mono ?_
  rintro e w2 ⟨rfl, m, hs, hp, ho, hg⟩
  have HSr := Lib.hid (And.intro hs hp)
  have HO2 := Lib.hid ho
  have HB2 : Hid (Below w.heap.size w w2) := Lib.hid (HB.out.grown hg HB.out.size (fun k hk => (World.ownsRow.lt HO.out k hk).1))
  clear hs hp ho hg HS
  go_wp2_with fail
  go_ret
  exact ⟨_, m, ps, rfl, HSr.out.1, HSr.out.2, HAll.out, HO2.out, HB2.out⟩

set_option maxRecDepth 100000 in
theorem sortedv_i (Bm b nn : Nat) (D : DataW Unit) (w : World) (hm : w.cell? ⟨Bm, 0, none⟩ = some (.map (some b))) (hown : w.ownsMap Try.prog 85 intElem b nn D) (hD : Maps.size D ≤ 100000) :
    Calls Try.prog 60 #[.func (.func 44) #[] #[.pointer (some ⟨Bm, 0, none⟩)], .func (.func 61) #[] #[]] w fun e w' =>
      ∃ v m ps, e = .returned v ∧ Srt m ∧ m.Perm ps ∧ AllV vI nI D ps ∧ OwnV chL 3 87 w' w.heap.size v m ∧ Below w.heap.size w w' := by
  have HC := Lib.hid (collectv_i Bm b nn D w hm hown hD)
  clear hm hown
  go_enter Try.func60, Try.ntmps60
  go_wp2_with fail
  refine HC.out.mono ?_
  rintro e w1 ⟨v, ps, rfl, hall, ho, hb⟩
  have HS := Lib.hid (sortfv_i ho hall.1.nd (Nat.le_trans hall.2 hD))
  have HAll := Lib.hid hall
  have HO := Lib.hid ho
  have HB := Lib.hid hb
  obtain ⟨sa, sn, sc, rfl⟩ := ho.slice
  clear hall ho hb HC hD
  go_wp2_with fail
  refine HS.out.mono ?_
  rintro e w2 ⟨rfl, m, hs, hp, ho, hg⟩
  have HSr := Lib.hid (And.intro hs hp)
  have HO2 := Lib.hid ho
  have HB2 : Hid (Below w.heap.size w w2) := Lib.hid (HB.out.grown hg HB.out.size (fun k hk => (World.ownsRow.lt HO.out k hk).1))
  clear hs hp ho hg HS
  go_wp2_with fail
  go_ret
  exact ⟨_, m, ps, rfl, HSr.out.1, HSr.out.2, HAll.out, HO2.out, HB2.out⟩

end Go.Proofs.Ytedjbmmegjgegaa

namespace Go.Proofs.Ytedjbmmegjgegaa
open Go.RowKit Go.Lib Go.Maps Go.Sort Go.Shelf
set_option linter.unusedVariables false
set_option linter.unusedSimpArgs false
attribute [local go_sem] Oper.semAt_some

theorem OwnV.base {E : Fct → List Value} {sz : Nat} {ty : TypeId} {w : World} {a b : Nat} {v : Value} {t : List Fct} (h : OwnV E sz ty w b v t) (hab : a ≤ b) : OwnV E sz ty w a v t := by
  obtain ⟨h1, h2⟩ := h
  refine ⟨h1, ?_⟩
  rcases h2 with h2 | ⟨g, cap, cur, rfl, hb, h3⟩
  · exact .inl h2
  · exact .inr ⟨g, cap, cur, rfl, Nat.le_trans hab hb, h3⟩
theorem OwnV.grown {E : Fct → List Value} {sz : Nat} {ty : TypeId} {w w' : World} {base : Nat} {v : Value} {t : List Fct} (h : OwnV E sz ty w base v t) (hg : Below w.heap.size w w') : OwnV E sz ty w' base v t := by
  obtain ⟨h1, h2⟩ := h
  refine ⟨h1, ?_⟩
  rcases h2 with h2 | ⟨g, cap, cur, rfl, hb, hc, h3⟩
  · exact Or.inl h2
  · refine Or.inr ⟨g, cap, cur, rfl, hb, ?_, h3⟩
    rw [hg.block g (Array.getElem?_eq_some_iff.1 hc).1]
    exact hc
theorem all_mk_r (b : Option Nat) (w : World) : Calls Try.prog 56 #[.map b] w fun e w' => e = .returned (.func (.func 69) #[] #[.pointer (some ⟨w.heap.size, 0, none⟩)]) ∧ w' = w.alloc (.cells #[.map b] 72) := by
  go_enter Try.func56, Try.ntmps56
  go_wp2_with fail
  go_ret
  exact ⟨rfl, rfl⟩
set_option maxRecDepth 100000 in
theorem inorderv_r (b nn : Nat) (D : DataW Unit) (w : World) (hown : w.ownsMap Try.prog 85 ratElem b nn D) (hD : Maps.size D ≤ 100000) :
    Calls Try.prog 46 #[.map (some b)] w fun e w' => ∃ v m ps, e = .returned v ∧ Srt m ∧ m.Perm ps ∧ AllV vR nR D ps ∧ OwnV rtL 4 92 w' w.heap.size v m ∧ Below w.heap.size w w' := by
  have hb0 := newF w (.cells #[.map (some b)] 72)
  have hm : (w.alloc (.cells #[.map (some b)] 72)).cell? ⟨w.heap.size, 0, none⟩ = some (.map (some b)) := by rw [World.cell?_alloc_at _ _ _ _ rfl]; rfl
  have HM := Lib.hid (fun w' => all_mk_r (some b) w')
  have HS := Lib.hid (sortedv_r w.heap.size b nn D _ hm (hown.alloc _) hD)
  have HB := Lib.hid hb0
  clear hb0 hm hown hD
  go_enter Try.func46, Try.ntmps46
  go_wp2_with fail
  refine (HM.out _).mono ?_
  rintro e w1 ⟨rfl, rfl⟩
  clear HM
  go_wp2_with fail
  refine HS.out.mono ?_
  rintro e w2 ⟨v, m, ps, rfl, hs, hp, hall, ho, hb⟩
  have HR := Lib.hid (And.intro hs (And.intro hp hall))
  have HO := Lib.hid ho
  have HB2 := Lib.hid (onF HB.out hb)
  obtain ⟨sa, sn, sc, rfl⟩ := ho.slice
  clear hs hp hall ho hb HS
  go_wp2_with fail
  go_ret
  exact ⟨_, m, ps, rfl, HR.out.1, HR.out.2.1, HR.out.2.2, HO.out.base (by simp), HB2.out⟩
set_option maxRecDepth 100000 in
set_option maxHeartbeats 1000000 in
theorem toldv_r (g : FuncId) (b nn : Nat) (D : DataW Unit) (w : World) (hown : w.ownsMap Try.prog 85 ratElem b nn D) (hD : Maps.size D ≤ 100000) :
    Calls Try.prog 36 #[.map (some b), .func (.func g) #[] #[]] w fun e w' => ∃ Bs Bg v m ps, e = .returned (.func (.func 47) #[] #[.pointer (some ⟨Bs, 0, none⟩), .pointer (some ⟨Bg, 0, none⟩)]) ∧ Srt m ∧ m.Perm ps ∧ AllV vR nR D ps ∧ w'.cell? ⟨Bs, 0, none⟩ = some v ∧ w'.cell? ⟨Bg, 0, none⟩ = some (.func (.func g) #[] #[]) ∧ OwnV rtL 4 92 w' w.heap.size v m ∧ Below w.heap.size w w' := by
  have hb0 := newF w (.cells #[.func (.func g) #[] #[]] 93)
  have HI := Lib.hid (inorderv_r b nn D _ (hown.alloc (.cells #[.func (.func g) #[] #[]] 93)) hD)
  have HB := Lib.hid hb0
  have HG : Hid ((w.alloc (.cells #[.func (.func g) #[] #[]] 93)).cell? ⟨w.heap.size, 0, none⟩ = some (.func (.func g) #[] #[])) := Lib.hid (by rw [World.cell?_alloc_at _ _ _ _ rfl]; rfl)
  clear hb0 hown hD
  go_enter Try.func36, Try.ntmps36
  go_wp2_with fail
  refine HI.out.mono ?_
  rintro e w1 ⟨v, m, ps, rfl, hs, hp, hall, ho, hb⟩
  have HR := Lib.hid (And.intro hs (And.intro hp hall))
  have HO := Lib.hid ho
  have HG1 := Lib.hid (keepF hb HG.out)
  have HB2 := Lib.hid (onF HB.out hb)
  obtain ⟨sa, sn, sc, rfl⟩ := ho.slice
  clear hs hp hall ho hb HI HG HB
  go_wp2_with fail
  go_ret
  refine ⟨w1.heap.size, w.heap.size, _, m, ps, rfl, HR.out.1, HR.out.2.1, HR.out.2.2, ?_, keepF (newF _ _) HG1.out, (HO.out.base (by simp)).grown (newF _ _), onF HB2.out (newF _ _)⟩
  rw [World.cell?_alloc_at _ _ _ _ rfl]; rfl

set_option maxRecDepth 100000 in
set_option maxHeartbeats 1000000 in
/-- What the fixings' iterator is. -/
theorem methv_r {w : World} {B bf bc nn : Nat} {Df Dc : DataW Unit} (h : FacM w B bf bc nn Df Dc) (hD : Maps.size Df ≤ 100000) :
    Calls Try.prog 24 #[.pointer (some ⟨B, 0, none⟩)] w fun e w' => ∃ Bs Bg v m ps, e = .returned (.func (.func 47) #[] #[.pointer (some ⟨Bs, 0, none⟩), .pointer (some ⟨Bg, 0, none⟩)]) ∧ Srt m ∧ m.Perm ps ∧ AllV vR nR Df ps ∧ w'.cell? ⟨Bs, 0, none⟩ = some v ∧ w'.cell? ⟨Bg, 0, none⟩ = some (.func (.func 37) #[] #[]) ∧ OwnV rtL 4 92 w' w.heap.size v m ∧ Below w.heap.size w w' := by
  have HO := Lib.hid (fun a w' => ornone_any a w')
  have HT := Lib.hid (toldv_r 37 bf nn Df w h.hf hD)
  have c0 := h.c0
  have c1 := h.c1
  clear h hD
  go_enter Try.func24, Try.ntmps24
  go_wp2_with fail
  refine (HO.out _ _).mono ?_
  rintro e w1 ⟨rfl, rfl⟩
  clear HO
  go_wp2_with fail
  refine HT.out.mono ?_
  rintro e w2 ⟨Bs, Bg, v, m, ps, rfl, r⟩
  have HR := Lib.hid r
  clear r HT c0 c1
  go_wp2_with fail
  go_ret
  exact ⟨Bs, Bg, v, m, ps, rfl, HR.out⟩
theorem all_mk_i (b : Option Nat) (w : World) : Calls Try.prog 33 #[.map b] w fun e w' => e = .returned (.func (.func 44) #[] #[.pointer (some ⟨w.heap.size, 0, none⟩)]) ∧ w' = w.alloc (.cells #[.map b] 74) := by
  go_enter Try.func33, Try.ntmps33
  go_wp2_with fail
  go_ret
  exact ⟨rfl, rfl⟩
set_option maxRecDepth 100000 in
theorem inorderv_i (b nn : Nat) (D : DataW Unit) (w : World) (hown : w.ownsMap Try.prog 85 intElem b nn D) (hD : Maps.size D ≤ 100000) :
    Calls Try.prog 48 #[.map (some b)] w fun e w' => ∃ v m ps, e = .returned v ∧ Srt m ∧ m.Perm ps ∧ AllV vI nI D ps ∧ OwnV chL 3 87 w' w.heap.size v m ∧ Below w.heap.size w w' := by
  have hb0 := newF w (.cells #[.map (some b)] 74)
  have hm : (w.alloc (.cells #[.map (some b)] 74)).cell? ⟨w.heap.size, 0, none⟩ = some (.map (some b)) := by rw [World.cell?_alloc_at _ _ _ _ rfl]; rfl
  have HM := Lib.hid (fun w' => all_mk_i (some b) w')
  have HS := Lib.hid (sortedv_i w.heap.size b nn D _ hm (hown.alloc _) hD)
  have HB := Lib.hid hb0
  clear hb0 hm hown hD
  go_enter Try.func48, Try.ntmps48
  go_wp2_with fail
  refine (HM.out _).mono ?_
  rintro e w1 ⟨rfl, rfl⟩
  clear HM
  go_wp2_with fail
  refine HS.out.mono ?_
  rintro e w2 ⟨v, m, ps, rfl, hs, hp, hall, ho, hb⟩
  have HR := Lib.hid (And.intro hs (And.intro hp hall))
  have HO := Lib.hid ho
  have HB2 := Lib.hid (onF HB.out hb)
  obtain ⟨sa, sn, sc, rfl⟩ := ho.slice
  clear hs hp hall ho hb HS
  go_wp2_with fail
  go_ret
  exact ⟨_, m, ps, rfl, HR.out.1, HR.out.2.1, HR.out.2.2, HO.out.base (by simp), HB2.out⟩
set_option maxRecDepth 100000 in
set_option maxHeartbeats 1000000 in
theorem toldv_i (g : FuncId) (b nn : Nat) (D : DataW Unit) (w : World) (hown : w.ownsMap Try.prog 85 intElem b nn D) (hD : Maps.size D ≤ 100000) :
    Calls Try.prog 38 #[.map (some b), .func (.func g) #[] #[]] w fun e w' => ∃ Bs Bg v m ps, e = .returned (.func (.func 49) #[] #[.pointer (some ⟨Bs, 0, none⟩), .pointer (some ⟨Bg, 0, none⟩)]) ∧ Srt m ∧ m.Perm ps ∧ AllV vI nI D ps ∧ w'.cell? ⟨Bs, 0, none⟩ = some v ∧ w'.cell? ⟨Bg, 0, none⟩ = some (.func (.func g) #[] #[]) ∧ OwnV chL 3 87 w' w.heap.size v m ∧ Below w.heap.size w w' := by
  have hb0 := newF w (.cells #[.func (.func g) #[] #[]] 95)
  have HI := Lib.hid (inorderv_i b nn D _ (hown.alloc (.cells #[.func (.func g) #[] #[]] 95)) hD)
  have HB := Lib.hid hb0
  have HG : Hid ((w.alloc (.cells #[.func (.func g) #[] #[]] 95)).cell? ⟨w.heap.size, 0, none⟩ = some (.func (.func g) #[] #[])) := Lib.hid (by rw [World.cell?_alloc_at _ _ _ _ rfl]; rfl)
  clear hb0 hown hD
  go_enter Try.func38, Try.ntmps38
  go_wp2_with fail
  refine HI.out.mono ?_
  rintro e w1 ⟨v, m, ps, rfl, hs, hp, hall, ho, hb⟩
  have HR := Lib.hid (And.intro hs (And.intro hp hall))
  have HO := Lib.hid ho
  have HG1 := Lib.hid (keepF hb HG.out)
  have HB2 := Lib.hid (onF HB.out hb)
  obtain ⟨sa, sn, sc, rfl⟩ := ho.slice
  clear hs hp hall ho hb HI HG HB
  go_wp2_with fail
  go_ret
  refine ⟨w1.heap.size, w.heap.size, _, m, ps, rfl, HR.out.1, HR.out.2.1, HR.out.2.2, ?_, keepF (newF _ _) HG1.out, (HO.out.base (by simp)).grown (newF _ _), onF HB2.out (newF _ _)⟩
  rw [World.cell?_alloc_at _ _ _ _ rfl]; rfl

set_option maxRecDepth 100000 in
set_option maxHeartbeats 1000000 in
/-- What the choices' iterator is. -/
theorem methv_i {w : World} {B bf bc nn : Nat} {Df Dc : DataW Unit} (h : FacM w B bf bc nn Df Dc) (hD : Maps.size Dc ≤ 100000) :
    Calls Try.prog 25 #[.pointer (some ⟨B, 0, none⟩)] w fun e w' => ∃ Bs Bg v m ps, e = .returned (.func (.func 49) #[] #[.pointer (some ⟨Bs, 0, none⟩), .pointer (some ⟨Bg, 0, none⟩)]) ∧ Srt m ∧ m.Perm ps ∧ AllV vI nI Dc ps ∧ w'.cell? ⟨Bs, 0, none⟩ = some v ∧ w'.cell? ⟨Bg, 0, none⟩ = some (.func (.func 39) #[] #[]) ∧ OwnV chL 3 87 w' w.heap.size v m ∧ Below w.heap.size w w' := by
  have HO := Lib.hid (fun a w' => ornone_any a w')
  have HT := Lib.hid (toldv_i 39 bc nn Dc w h.hc hD)
  have c0 := h.c0
  have c1 := h.c1
  clear h hD
  go_enter Try.func25, Try.ntmps25
  go_wp2_with fail
  refine (HO.out _ _).mono ?_
  rintro e w1 ⟨rfl, rfl⟩
  clear HO
  go_wp2_with fail
  refine HT.out.mono ?_
  rintro e w2 ⟨Bs, Bg, v, m, ps, rfl, r⟩
  have HR := Lib.hid r
  clear r HT c0 c1
  go_wp2_with fail
  go_ret
  exact ⟨Bs, Bg, v, m, ps, rfl, HR.out⟩

end Go.Proofs.Ytedjbmmegjgegaa

namespace Go.Proofs.Ytedjbmmegjgegaa
open Go.RowKit Go.Lib Go.Maps Go.Sort Go.Shelf
set_option linter.unusedVariables false
set_option linter.unusedSimpArgs false
attribute [local go_sem] Oper.semAt_some

set_option maxRecDepth 100000 in
theorem fx1_any (w : World) (k d x y : Int) : Calls Try.prog 37 #[.agg #[.int .i64 k, .int .i64 d, .int .i64 x, .int .i64 y]] w fun e w' => e = .returned (.agg #[.int .i64 k, .int .i64 d, .int .i64 x, .int .i64 y]) ∧ Below w.heap.size w w' := by
  go_enter Try.func37, Try.ntmps37
  go_wp2_with fail
  refine bodyPost_ret (v := .agg #[.int .i64 k, .int .i64 d, .int .i64 x, .int .i64 y]) (by simp [results, Try.results37, go_sem]) rfl ⟨rfl, ?_⟩
  exact onF (newF _ _) (newF _ _)
theorem take_getV {l : List Fct} {i : Nat} (hi : i < l.length) : l.take (i + 1) = l.take i ++ [l.getD i default] := by
  rw [List.take_add_one, List.getElem?_eq_getElem hi, List.getD_eq_getElem?_getD, List.getElem?_eq_getElem hi]
  rfl
/-- A row of structs, as it is read. -/
def RowV (E : Fct → List Value) (k : Nat) (W : World) (v : Value) (m : List Fct) : Prop :=
  (m = [] ∧ ∃ a c, v = .slice a 0 c) ∨ (0 < m.length ∧ ∃ g cap, v = .slice (some ⟨g, 0, none⟩) m.length cap ∧ m.length ≤ cap ∧ cap ≤ 9223372036854775807 ∧ ∀ j, j < m.length → ∀ i c, i < k → (E (m.getD j default))[i]? = some c → W.cell? ⟨g, j * k + i, none⟩ = some c)
theorem OwnV.row {E : Fct → List Value} {k : Nat} (hk : ∀ t, (E t).length = k) {ty : TypeId} {w : World} {base : Nat} {v : Value} {m : List Fct} (h : OwnV E k ty w base v m) : RowV E k w v m := by
  obtain ⟨h1, h2⟩ := id h
  rcases h2 with ⟨rfl, h2⟩ | ⟨g, cap, cur, rfl, hb, hc, hn, hm, h3, h4⟩
  · exact .inl ⟨List.length_eq_zero_iff.1 h2, _, _, rfl⟩
  · by_cases h0 : m.length = 0
    · exact .inl ⟨List.length_eq_zero_iff.1 h0, some ⟨g, 0, none⟩, cap, by rw [h0]⟩
    · refine .inr ⟨by omega, g, cap, rfl, hn, by unfold maxLen at hm; omega, fun j hj i c hi hcI => ?_⟩
      have hcl := World.ownsRow.cells (g := g) h rfl
      have := hcl (j * k + i) c (by rw [flat_get hk m j i hj hi]; exact hcI)
      rw [Go.WideShapes.add_plain, Nat.zero_add] at this
      exact this
theorem RowV.keep {E : Fct → List Value} {k : Nat} {w w' : World} {v : Value} {m : List Fct} (h : RowV E k w v m) (hb : Below w.heap.size w w') : RowV E k w' v m := by
  rcases h with h | ⟨h0, g, cap, h1, h2, h3, h4⟩
  · exact .inl h
  · exact .inr ⟨h0, g, cap, h1, h2, h3, fun j hj i c hi hc => keepF hb (h4 j hj i c hi hc)⟩
set_option maxRecDepth 100000 in
set_option maxHeartbeats 2000000 in
theorem titv_r (n : Nat) (hn : 1 ≤ n) (Bs Bg : Nat) (v : Value) (m : List Fct) (hl : m.length ≤ 100000) (w : World) (hc : w.cell? ⟨Bs, 0, none⟩ = some v) (hg : w.cell? ⟨Bg, 0, none⟩ = some (.func (.func 37) #[] #[])) (hr : RowV rtL 4 w v m) :
    SeqStopsK Fence.wide n Try.prog 47 #[.pointer (some ⟨Bs, 0, none⟩), .pointer (some ⟨Bg, 0, none⟩)] (fun x => #[.agg (rtL x).toArray]) (fun A B => Below w.heap.size A B) (fun xs => xs = m) (fun pre => ∃ ys, m = pre ++ ys) m.length w := fun l J Jx W hW hJ _ hY h0 => by
  have HFx := Lib.hid (fun (w' : World) (k d x y : Int) => fx1_any w' k d x y)
  have hr' := hr.keep hW
  have hc' := keepF hW hc
  have hg' := keepF hW hg
  obtain ⟨va, vc, rfl⟩ : ∃ a c, v = .slice a m.length c := by
    rcases hr with ⟨rfl, a, c, rfl⟩ | ⟨_, g, c, rfl, _⟩
    · exact ⟨_, _, rfl⟩
    · exact ⟨_, _, rfl⟩
  refine callsIn_of_wp Try.func47 rfl trivial ?_ rfl
  simp only [Try.ntmps47, List.size_toArray, List.length_cons, List.length_nil, Nat.reduceAdd, Nat.reduceSub, Array.replicate_succ, Array.replicate_zero, List.push_toArray, List.append_toArray, List.nil_append, List.cons_append]
  gi_wp2
  gi_loopw [8] (fun vi wr => ∃ i : Nat, i ≤ m.length ∧ vi = .int .i64 (i : Nat) ∧ J (m.take i) wr ∧ Below w.heap.size w wr ∧ W.heap.size ≤ wr.heap.size)
    (fun vi _ => m.length - (RowKit.intOf vi).toNat)
  case atStart => exact ⟨0, Nat.zero_le _, rfl, h0, hW, Nat.le_refl _⟩
  case round =>
    obtain ⟨i, hi, rfl, hJi, hbr, hsz⟩ := hrel
    have hcr := keepF hbr hc
    have hgr := keepF hbr hg
    by_cases hlt : i < m.length
    · have p0 : (0 : Int) ≤ (i : Int) := by omega
      have p1 : (i : Int) < (m.length : Int) := by omega
      obtain ⟨g, cap, hv, hc1, hc2, hT⟩ : ∃ g cap, Value.slice va m.length vc = .slice (some ⟨g, 0, none⟩) m.length cap ∧ m.length ≤ cap ∧ cap ≤ 9223372036854775807 ∧ ∀ j, j < m.length → ∀ i c, i < 4 → (rtL (m.getD j default))[i]? = some c → wr.cell? ⟨g, j * 4 + i, none⟩ = some c := by
        rcases hr.keep hbr with ⟨e, _⟩ | ⟨_, g, cap, h1, h2, h3, h4⟩
        · rw [e] at hlt; exact absurd hlt (Nat.not_lt_zero _)
        · exact ⟨g, cap, h1, h2, h3, h4⟩
      injection hv with hv1 _ hv3
      subst hv1 hv3
      have k0 : wr.cell? ⟨g, i * 4, none⟩ = some (.int .i64 (m.getD i default).k) := hT i hlt 0 _ (by omega) rfl
      have k1 : wr.cell? ⟨g, i * 4 + 1, none⟩ = some (.int .i64 (m.getD i default).d) := hT i hlt 1 _ (by omega) rfl
      have k2 : wr.cell? ⟨g, i * 4 + 2, none⟩ = some (.int .i64 (m.getD i default).x) := hT i hlt 2 _ (by omega) rfl
      have k3 : wr.cell? ⟨g, i * 4 + 3, none⟩ = some (.int .i64 (m.getD i default).y) := hT i hlt 3 _ (by omega) rfl
      have HTk := Lib.hid (take_getV hlt)
      generalize m.getD i default = y at *
      obtain ⟨yk, yd, yx, yy, yp⟩ := y
      dsimp only at k0 k1 k2 k3
      have hgr2 := fun o => keepF (newF wr o) hgr
      have HLt := Lib.hid hlt
      clear hT hlt hcr hgr
      gi_wp2
      refine wideF (HFx.out _ _ _ _ _) ?_
      rintro e W2 ⟨rfl, hb2⟩
      have hbx := onF (newF wr (.cells #[.int .i64 yk, .int .i64 yd, .int .i64 yx, .int .i64 yy] 92)) hb2
      have hJ2 : J (m.take i) W2 := hJ _ wr W2 none hJi (grown_below hbx) (fun r e => by cases e)
      obtain ⟨fn, tmps, assign, body, hy, hR⟩ := hY (m.take i) ⟨yk, yd, yx, yy, yp⟩ W2 hJ2 (by rw [List.length_take]; have := HLt.out; omega)
      have HBr := Lib.hid (onF hbr hbx)
      have HSz : Hid (W.heap.size ≤ W2.heap.size) := Lib.hid (Nat.le_trans hsz hbx.size)
      dsimp only [rtL] at hy
      clear hb2 hbx hJ2 hJi hbr hsz hgr2
      gi_wp2
      refine hR.mono ?_
      rintro e W3 (⟨rfl, hJ3, hk3⟩ | ⟨rfl, hJx3⟩)
      · have HJ3 := Lib.hid hJ3
        have HB3 := Lib.hid (HBr.out.trans hk3)
        have HSz3 : Hid (W.heap.size ≤ W3.heap.size) := Lib.hid (Nat.le_trans HSz.out hk3.size)
        clear hJ3 hk3 hR hy
        gi_wp2
        go_roundw
        case rel => exact ⟨i + 1, HLt.out, by go_num, by rw [HTk.out]; exact HJ3.out, HB3.out, HSz3.out⟩
        case measure => have := HLt.out; simp [RowKit.intOf]; omega
      · have HX := Lib.hid hJx3
        clear hJx3 hR hy
        gi_wp2
        refine bodyPost_ret (results_none rfl _ _ _) rfl ?_
        refine ⟨⟨_, rfl⟩, .inr ⟨m.take i ++ [⟨yk, yd, yx, yy, yp⟩], ⟨m.drop (i + 1), ?_⟩, HX.out⟩⟩
        rw [← HTk.out]; exact (List.take_append_drop _ _).symm
    · have hie : i = m.length := by omega
      subst hie
      rw [List.take_length] at hJi
      have p1 : ¬ (m.length : Int) < (m.length : Int) := by omega
      gi_wp2
      go_end0
      exact ⟨⟨_, rfl⟩, .inl hJi⟩

set_option maxRecDepth 100000 in
theorem ch1_any (w : World) (k d p : Int) : Calls Try.prog 39 #[.agg #[.int .i64 k, .int .i64 d, .int .i64 p]] w fun e w' => e = .returned (.agg #[.int .i64 k, .int .i64 d, .int .i64 p]) ∧ Below w.heap.size w w' := by
  go_enter Try.func39, Try.ntmps39
  go_wp2_with fail
  refine bodyPost_ret (v := .agg #[.int .i64 k, .int .i64 d, .int .i64 p]) (by simp [results, Try.results39, go_sem]) rfl ⟨rfl, ?_⟩
  exact onF (newF _ _) (newF _ _)
set_option maxRecDepth 100000 in
set_option maxHeartbeats 2000000 in
theorem titv_i (n : Nat) (hn : 1 ≤ n) (Bs Bg : Nat) (v : Value) (m : List Fct) (hl : m.length ≤ 100000) (w : World) (hc : w.cell? ⟨Bs, 0, none⟩ = some v) (hg : w.cell? ⟨Bg, 0, none⟩ = some (.func (.func 39) #[] #[])) (hr : RowV chL 3 w v m) :
    SeqStopsK Fence.wide n Try.prog 49 #[.pointer (some ⟨Bs, 0, none⟩), .pointer (some ⟨Bg, 0, none⟩)] (fun x => #[.agg (chL x).toArray]) (fun A B => Below w.heap.size A B) (fun xs => xs = m) (fun pre => ∃ ys, m = pre ++ ys) m.length w := fun l J Jx W hW hJ _ hY h0 => by
  have HFx := Lib.hid (fun (w' : World) (k d p : Int) => ch1_any w' k d p)
  have hr' := hr.keep hW
  have hc' := keepF hW hc
  have hg' := keepF hW hg
  obtain ⟨va, vc, rfl⟩ : ∃ a c, v = .slice a m.length c := by
    rcases hr with ⟨rfl, a, c, rfl⟩ | ⟨_, g, c, rfl, _⟩
    · exact ⟨_, _, rfl⟩
    · exact ⟨_, _, rfl⟩
  refine callsIn_of_wp Try.func49 rfl trivial ?_ rfl
  simp only [Try.ntmps49, List.size_toArray, List.length_cons, List.length_nil, Nat.reduceAdd, Nat.reduceSub, Array.replicate_succ, Array.replicate_zero, List.push_toArray, List.append_toArray, List.nil_append, List.cons_append]
  gi_wp2
  gi_loopw [8] (fun vi wr => ∃ i : Nat, i ≤ m.length ∧ vi = .int .i64 (i : Nat) ∧ J (m.take i) wr ∧ Below w.heap.size w wr ∧ W.heap.size ≤ wr.heap.size)
    (fun vi _ => m.length - (RowKit.intOf vi).toNat)
  case atStart => exact ⟨0, Nat.zero_le _, rfl, h0, hW, Nat.le_refl _⟩
  case round =>
    obtain ⟨i, hi, rfl, hJi, hbr, hsz⟩ := hrel
    have hcr := keepF hbr hc
    have hgr := keepF hbr hg
    by_cases hlt : i < m.length
    · have p0 : (0 : Int) ≤ (i : Int) := by omega
      have p1 : (i : Int) < (m.length : Int) := by omega
      obtain ⟨g, cap, hv, hc1, hc2, hT⟩ : ∃ g cap, Value.slice va m.length vc = .slice (some ⟨g, 0, none⟩) m.length cap ∧ m.length ≤ cap ∧ cap ≤ 9223372036854775807 ∧ ∀ j, j < m.length → ∀ i c, i < 3 → (chL (m.getD j default))[i]? = some c → wr.cell? ⟨g, j * 3 + i, none⟩ = some c := by
        rcases hr.keep hbr with ⟨e, _⟩ | ⟨_, g, cap, h1, h2, h3, h4⟩
        · rw [e] at hlt; exact absurd hlt (Nat.not_lt_zero _)
        · exact ⟨g, cap, h1, h2, h3, h4⟩
      injection hv with hv1 _ hv3
      subst hv1 hv3
      have k0 : wr.cell? ⟨g, i * 3, none⟩ = some (.int .i64 (m.getD i default).k) := hT i hlt 0 _ (by omega) rfl
      have k1 : wr.cell? ⟨g, i * 3 + 1, none⟩ = some (.int .i64 (m.getD i default).d) := hT i hlt 1 _ (by omega) rfl
      have k2 : wr.cell? ⟨g, i * 3 + 2, none⟩ = some (.int .i64 (m.getD i default).p) := hT i hlt 2 _ (by omega) rfl
      have HTk := Lib.hid (take_getV hlt)
      generalize m.getD i default = y at *
      obtain ⟨yk, yd, yx, yy, yp⟩ := y
      dsimp only at k0 k1 k2
      have hgr2 := fun o => keepF (newF wr o) hgr
      have HLt := Lib.hid hlt
      clear hT hlt hcr hgr
      gi_wp2
      refine wideF (HFx.out _ _ _ _) ?_
      rintro e W2 ⟨rfl, hb2⟩
      have hbx := onF (newF wr (.cells #[.int .i64 yk, .int .i64 yd, .int .i64 yp] 87)) hb2
      have hJ2 : J (m.take i) W2 := hJ _ wr W2 none hJi (grown_below hbx) (fun r e => by cases e)
      obtain ⟨fn, tmps, assign, body, hy, hR⟩ := hY (m.take i) ⟨yk, yd, yx, yy, yp⟩ W2 hJ2 (by rw [List.length_take]; have := HLt.out; omega)
      have HBr := Lib.hid (onF hbr hbx)
      have HSz : Hid (W.heap.size ≤ W2.heap.size) := Lib.hid (Nat.le_trans hsz hbx.size)
      dsimp only [chL] at hy
      clear hb2 hbx hJ2 hJi hbr hsz hgr2
      gi_wp2
      refine hR.mono ?_
      rintro e W3 (⟨rfl, hJ3, hk3⟩ | ⟨rfl, hJx3⟩)
      · have HJ3 := Lib.hid hJ3
        have HB3 := Lib.hid (HBr.out.trans hk3)
        have HSz3 : Hid (W.heap.size ≤ W3.heap.size) := Lib.hid (Nat.le_trans HSz.out hk3.size)
        clear hJ3 hk3 hR hy
        gi_wp2
        go_roundw
        case rel => exact ⟨i + 1, HLt.out, by go_num, by rw [HTk.out]; exact HJ3.out, HB3.out, HSz3.out⟩
        case measure => have := HLt.out; simp [RowKit.intOf]; omega
      · have HX := Lib.hid hJx3
        clear hJx3 hR hy
        gi_wp2
        refine bodyPost_ret (results_none rfl _ _ _) rfl ?_
        refine ⟨⟨_, rfl⟩, .inr ⟨m.take i ++ [⟨yk, yd, yx, yy, yp⟩], ⟨m.drop (i + 1), ?_⟩, HX.out⟩⟩
        rw [← HTk.out]; exact (List.take_append_drop _ _).symm
    · have hie : i = m.length := by omega
      subst hie
      rw [List.take_length] at hJi
      have p1 : ¬ (m.length : Int) < (m.length : Int) := by omega
      gi_wp2
      go_end0
      exact ⟨⟨_, rfl⟩, .inl hJi⟩

end Go.Proofs.Ytedjbmmegjgegaa

namespace Go.Proofs.Ytedjbmmegjgegaa
open Go.RowKit Go.Lib Go.Maps Go.Sort Go.Shelf
set_option linter.unusedVariables false
set_option linter.unusedSimpArgs false
attribute [local go_sem] Oper.semAt_some

theorem OwnV.slice' {E : Fct → List Value} {sz : Nat} {ty : TypeId} {w : World} {base : Nat} {v : Value} {t : List Fct} (h : OwnV E sz ty w base v t) : ∃ a n cap, n = t.length ∧ v = .slice a n cap := by
  rcases h.2 with ⟨rfl, h2⟩ | ⟨g, cap, cur, rfl, _⟩
  · exact ⟨_, _, _, h2.symm, rfl⟩
  · exact ⟨_, _, _, rfl, rfl⟩
theorem infoFx : (Try.prog.info? 41).map (fun i => (i.zero, i.size, i.bytes)) = some (some (.agg #[.int .i64 0, .int .i64 0, .int .i64 0, .int .i64 0]), 4, 32) := by kernel_rfl
theorem infoCc : (Try.prog.info? 45).map (fun i => (i.zero, i.size, i.bytes)) = some (some (.agg #[.int .i64 0, .int .i64 0, .int .i64 0]), 3, 24) := by kernel_rfl
set_option maxRecDepth 100000 in
set_option maxHeartbeats 2000000 in
theorem listedv_r {w : World} {B bf bc nn : Nat} {Df Dc : DataW Unit} (h : FacM w B bf bc nn Df Dc) (hD : Maps.size Df ≤ 400) :
    Calls Try.prog 14 #[.pointer (some ⟨B, 0, none⟩)] w fun e w' => ∃ v m ps, e = .returned v ∧ Srt m ∧ m.Perm ps ∧ AllV vR nR Df ps ∧ OwnV rtL 4 41 w' w.heap.size v m ∧ Below w.heap.size w w' := by
  have HT := Lib.hid (methv_r h (by omega))
  obtain ⟨n, hn⟩ : ∃ n : Nat, 4 ≤ n := ⟨4, by omega⟩
  have h1 : 1 ≤ n := by omega
  refine callsIn_wide.1 (callsIn_of_wp_marks (n := n) Try.func14 rfl trivial ?_ rfl)
  simp only [Try.ntmps14, List.size_toArray, List.length_cons, List.length_nil, Nat.reduceAdd, Nat.reduceSub, Array.replicate_succ, Array.replicate_zero, List.push_toArray, List.append_toArray, List.nil_append, List.cons_append]
  gi_wp2
  refine wideN HT.out ?_
  rintro e w1 ⟨Bs, Bg, vs, m, ps, rfl, hs, hp, hall, hcs, hcg, hos, hb0⟩
  have hq := fnil_eq_r
  have hml : m.length ≤ 400 := by rw [hp.length_eq]; exact Nat.le_trans hall.2 hD
  have HR := Lib.hid (And.intro hs (And.intro hp hall))
  clear hs hp hall h HT
  gi_wp2
  have bx := Boxed.new w1 36 (.slice none 0 0)
  have hb := newF w1 (.cells #[.slice none 0 0] 36)
  have hst := titv_r (n - 1) (by omega) Bs Bg vs m (by omega) w1 hcs hcg (OwnV.row (E := rtL) (k := 4) (fun _ => rfl) hos)
  have hz : (w1.alloc (.cells #[.slice none 0 0] 36)).heap.size = w1.heap.size + 1 := by simp
  have hz0 := hb0.size
  generalize w1.alloc (.cells #[.slice none 0 0] 36) = W1 at *
  refine wpIn_rangeFunc_ownH rfl h1 (gf := 47) (lb := #[.pointer (some ⟨Bs, 0, none⟩), .pointer (some ⟨Bg, 0, none⟩)]) rfl trivial (enters_of Try.func47 (by kernel_rfl) rfl)
    hst (fun h h' => h.trans h') (fun W l o o' h1 h2 h3 h4 => belowK_b (w := W1) (by omega) W l o o' h1 h2 h3 h4) hb (fun x => rfl)
    (AppI rtL 4 41 36 w1)
    (fun _ _ _ => False)
    (fun s A C row hs hg hr => by
      obtain ⟨v, h2, h3, h4⟩ := hs
      exact ⟨v, h2.kept hg (fun e' => by obtain ⟨o, ho, hc⟩ := (hr _ e'.symm).2; rw [show A.heap[w1.heap.size]? = _ from h2] at ho; cases ho; cases hc), h3.turn hg (fun r e => (hr r e).2), h4.grown hg h4.size (fun j hj => by have := (hr j hj).1; omega)⟩)
    (fun _ _ _ _ _ hs _ _ => hs)
    ⟨_, bx, OwnV.nil _ _ _ _ _, hb⟩
    (fun x a' W => ∃ X, a' = { tmps := #[.pointer (some ⟨B, 0, none⟩), undef, .slice none 0 0, .func (.func 47) #[] #[.pointer (some ⟨Bs, 0, none⟩), .pointer (some ⟨Bg, 0, none⟩)], .pointer (some ⟨w1.heap.size, 0, none⟩), .pointer (some ⟨X, 0, none⟩), .pointer (some ⟨B, 0, none⟩), .func (.func 47) #[] #[.pointer (some ⟨Bs, 0, none⟩), .pointer (some ⟨Bg, 0, none⟩)], .func (.func 47) #[] #[.pointer (some ⟨Bs, 0, none⟩), .pointer (some ⟨Bg, 0, none⟩)], .bool false, .func (.func 47) #[] #[.pointer (some ⟨Bs, 0, none⟩), .pointer (some ⟨Bg, 0, none⟩)], .agg (rtL x).toArray, undef, undef, undef, undef, undef, undef, undef, undef], defers := [] } ∧ ∀ j c, (rtL x)[j]? = some c → W.cell? ⟨X, j, none⟩ = some c)
    (fun x a' s A C row hs hg hr => by
      obtain ⟨X, e, h2⟩ := hs
      exact ⟨X, e, fun j c hj => cell_kept (h2 j c hj) hg (fun r e => (hr r e).2)⟩)
    ?assign ?body ?done ?stop
  case assign =>
    rintro l pre x W K ⟨v, h2, h3, h4⟩ hK
    dsimp only [rtL]
    gi_wp2
    refine hK _ _ (KeepsFrom.of_grownBy (World.grownBy_alloc W _ none) (fun j e => by cases e)) ((Below.refl _ W).alloc h4.size _) ⟨v, h2.alloc _, h3.turn (World.grownBy_alloc W _ none) (fun r e => by cases e), onF h4 (newF _ _)⟩ ⟨W.heap.size, rfl, fun j c hj => ?_⟩
    rw [World.cell?_alloc_at _ _ _ _ rfl]
    simpa [rtL] using hj
  case body =>
    rintro l pre x a' W hl hr ⟨v, h2, h3, h4⟩ ⟨X, rfl, hx⟩ hlt
    have c0 := h2.cell
    have f0 := h2.frozen
    have x0 := hx 0 _ rfl
    have x1 := hx 1 _ rfl
    have x2 := hx 2 _ rfl
    have x3 := hx 3 _ rfl
    have hsW := h4.size
    dsimp only [rtL]
    gi_wp2_with (first
      | (gi_at_builtin; refine wpListIn_append_one (E := rtL) Try.underlying36 infoFx rfl (by decide) (by decide) (fun t => rfl) (fun t u hu => by unfold rtL at hu; simp at hu; rcases hu with rfl | rfl | rfl | rfl <;> rfl) rfl _ _ rfl w1.heap.size v pre rfl (h3.turn (World.grownBy_alloc W _ none) (fun r e => by cases e)) W.heap.size x rfl (fun j c hj => by rw [World.cell?_alloc_at _ _ _ _ rfl]; simpa [rtL] using hj) (by omega) (by simp; omega) ?_; intro v' w' hv' hg' hat'; obtain ⟨sa, sn, sc, hsn, rfl⟩ := hv'.slice'; obtain ⟨hv1, hv2, hr2, hk2, hb2⟩ := h2.appended (by decide) h3 h4.size (Nat.le_refl _) hv' hg'; have hc1 := hv1.cell; have hf1 := hv1.frozen; have hc2 := hv2.cell; (have hs5 : ¬ (500 : Int) < (sn : Int) := by (rw [List.length_append] at hsn; simp at hsn; omega)); clear hsn)
      | gi_in)
    exact ⟨hk2.from _, hb2, ⟨_, hv2, hr2, h4.trans hb2⟩⟩
  case done =>
    rintro D ys W hD rfl ⟨v, h2, h3, h4⟩ hK
    have hc := h2.cell
    obtain ⟨sa, sn, sc, rfl⟩ := h3.slice
    gi_wp2
    refine ⟨by simp, .inl ⟨_, _, rfl, run_takeDeferred hK, ?_⟩⟩
    exact ⟨_, results_tmp rfl _ _ _, _, ys, ps, rfl, HR.out.1, HR.out.2.1, HR.out.2.2, (h3.turn (grownBy_putObj' W D _) (fun r e => by cases e; exact ⟨_, hK, rfl⟩)).base hz0, (onF hb0 h4).trans (belowK_b (w := w) (Nat.le_refl _) W D _ _ (by omega) hK rfl rfl)⟩
  case stop =>
    rintro D c pre W _ _ h _
    exact h.elim

set_option maxRecDepth 100000 in
set_option maxHeartbeats 2000000 in
theorem listedv_i {w : World} {B bf bc nn : Nat} {Df Dc : DataW Unit} (h : FacM w B bf bc nn Df Dc) (hD : Maps.size Dc ≤ 400) :
    Calls Try.prog 15 #[.pointer (some ⟨B, 0, none⟩)] w fun e w' => ∃ v m ps, e = .returned v ∧ Srt m ∧ m.Perm ps ∧ AllV vI nI Dc ps ∧ OwnV chL 3 45 w' w.heap.size v m ∧ Below w.heap.size w w' := by
  have HT := Lib.hid (methv_i h (by omega))
  obtain ⟨n, hn⟩ : ∃ n : Nat, 4 ≤ n := ⟨4, by omega⟩
  have h1 : 1 ≤ n := by omega
  refine callsIn_wide.1 (callsIn_of_wp_marks (n := n) Try.func15 rfl trivial ?_ rfl)
  simp only [Try.ntmps15, List.size_toArray, List.length_cons, List.length_nil, Nat.reduceAdd, Nat.reduceSub, Array.replicate_succ, Array.replicate_zero, List.push_toArray, List.append_toArray, List.nil_append, List.cons_append]
  gi_wp2
  refine wideN HT.out ?_
  rintro e w1 ⟨Bs, Bg, vs, m, ps, rfl, hs, hp, hall, hcs, hcg, hos, hb0⟩
  have hq := fnil_eq_i
  have hml : m.length ≤ 400 := by rw [hp.length_eq]; exact Nat.le_trans hall.2 hD
  have HR := Lib.hid (And.intro hs (And.intro hp hall))
  clear hs hp hall h HT
  gi_wp2
  have bx := Boxed.new w1 38 (.slice none 0 0)
  have hb := newF w1 (.cells #[.slice none 0 0] 38)
  have hst := titv_i (n - 1) (by omega) Bs Bg vs m (by omega) w1 hcs hcg (OwnV.row (E := chL) (k := 3) (fun _ => rfl) hos)
  have hz : (w1.alloc (.cells #[.slice none 0 0] 38)).heap.size = w1.heap.size + 1 := by simp
  have hz0 := hb0.size
  generalize w1.alloc (.cells #[.slice none 0 0] 38) = W1 at *
  refine wpIn_rangeFunc_ownH rfl h1 (gf := 49) (lb := #[.pointer (some ⟨Bs, 0, none⟩), .pointer (some ⟨Bg, 0, none⟩)]) rfl trivial (enters_of Try.func49 (by kernel_rfl) rfl)
    hst (fun h h' => h.trans h') (fun W l o o' h1 h2 h3 h4 => belowK_b (w := W1) (by omega) W l o o' h1 h2 h3 h4) hb (fun x => rfl)
    (AppI chL 3 45 38 w1)
    (fun _ _ _ => False)
    (fun s A C row hs hg hr => by
      obtain ⟨v, h2, h3, h4⟩ := hs
      exact ⟨v, h2.kept hg (fun e' => by obtain ⟨o, ho, hc⟩ := (hr _ e'.symm).2; rw [show A.heap[w1.heap.size]? = _ from h2] at ho; cases ho; cases hc), h3.turn hg (fun r e => (hr r e).2), h4.grown hg h4.size (fun j hj => by have := (hr j hj).1; omega)⟩)
    (fun _ _ _ _ _ hs _ _ => hs)
    ⟨_, bx, OwnV.nil _ _ _ _ _, hb⟩
    (fun x a' W => ∃ X, a' = { tmps := #[.pointer (some ⟨B, 0, none⟩), undef, .slice none 0 0, .func (.func 49) #[] #[.pointer (some ⟨Bs, 0, none⟩), .pointer (some ⟨Bg, 0, none⟩)], .pointer (some ⟨w1.heap.size, 0, none⟩), .pointer (some ⟨X, 0, none⟩), .pointer (some ⟨B, 0, none⟩), .func (.func 49) #[] #[.pointer (some ⟨Bs, 0, none⟩), .pointer (some ⟨Bg, 0, none⟩)], .func (.func 49) #[] #[.pointer (some ⟨Bs, 0, none⟩), .pointer (some ⟨Bg, 0, none⟩)], .bool false, .func (.func 49) #[] #[.pointer (some ⟨Bs, 0, none⟩), .pointer (some ⟨Bg, 0, none⟩)], .agg (chL x).toArray, undef, undef, undef, undef, undef, undef, undef, undef], defers := [] } ∧ ∀ j c, (chL x)[j]? = some c → W.cell? ⟨X, j, none⟩ = some c)
    (fun x a' s A C row hs hg hr => by
      obtain ⟨X, e, h2⟩ := hs
      exact ⟨X, e, fun j c hj => cell_kept (h2 j c hj) hg (fun r e => (hr r e).2)⟩)
    ?assign ?body ?done ?stop
  case assign =>
    rintro l pre x W K ⟨v, h2, h3, h4⟩ hK
    dsimp only [chL]
    gi_wp2
    refine hK _ _ (KeepsFrom.of_grownBy (World.grownBy_alloc W _ none) (fun j e => by cases e)) ((Below.refl _ W).alloc h4.size _) ⟨v, h2.alloc _, h3.turn (World.grownBy_alloc W _ none) (fun r e => by cases e), onF h4 (newF _ _)⟩ ⟨W.heap.size, rfl, fun j c hj => ?_⟩
    rw [World.cell?_alloc_at _ _ _ _ rfl]
    simpa [chL] using hj
  case body =>
    rintro l pre x a' W hl hr ⟨v, h2, h3, h4⟩ ⟨X, rfl, hx⟩ hlt
    have c0 := h2.cell
    have f0 := h2.frozen
    have x0 := hx 0 _ rfl
    have x1 := hx 1 _ rfl
    have x2 := hx 2 _ rfl
    have hsW := h4.size
    dsimp only [chL]
    gi_wp2_with (first
      | (gi_at_builtin; refine wpListIn_append_one (E := chL) Try.underlying38 infoCc rfl (by decide) (by decide) (fun t => rfl) (fun t u hu => by unfold chL at hu; simp at hu; rcases hu with rfl | rfl | rfl <;> rfl) rfl _ _ rfl w1.heap.size v pre rfl (h3.turn (World.grownBy_alloc W _ none) (fun r e => by cases e)) W.heap.size x rfl (fun j c hj => by rw [World.cell?_alloc_at _ _ _ _ rfl]; simpa [chL] using hj) (by omega) (by simp; omega) ?_; intro v' w' hv' hg' hat'; obtain ⟨sa, sn, sc, hsn, rfl⟩ := hv'.slice'; obtain ⟨hv1, hv2, hr2, hk2, hb2⟩ := h2.appended (by decide) h3 h4.size (Nat.le_refl _) hv' hg'; have hc1 := hv1.cell; have hf1 := hv1.frozen; have hc2 := hv2.cell; (have hs5 : ¬ (500 : Int) < (sn : Int) := by (rw [List.length_append] at hsn; simp at hsn; omega)); clear hsn)
      | gi_in)
    exact ⟨hk2.from _, hb2, ⟨_, hv2, hr2, h4.trans hb2⟩⟩
  case done =>
    rintro D ys W hD rfl ⟨v, h2, h3, h4⟩ hK
    have hc := h2.cell
    obtain ⟨sa, sn, sc, rfl⟩ := h3.slice
    gi_wp2
    refine ⟨by simp, .inl ⟨_, _, rfl, run_takeDeferred hK, ?_⟩⟩
    exact ⟨_, results_tmp rfl _ _ _, _, ys, ps, rfl, HR.out.1, HR.out.2.1, HR.out.2.2, (h3.turn (grownBy_putObj' W D _) (fun r e => by cases e; exact ⟨_, hK, rfl⟩)).base hz0, (onF hb0 h4).trans (belowK_b (w := w) (Nat.le_refl _) W D _ _ (by omega) hK rfl rfl)⟩
  case stop =>
    rintro D c pre W _ _ h _
    exact h.elim

end Go.Proofs.Ytedjbmmegjgegaa

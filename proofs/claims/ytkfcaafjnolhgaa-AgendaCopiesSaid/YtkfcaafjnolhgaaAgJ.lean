/-
  container/heap's Fix, the queue's move, Move; a nil agenda: what they answer.
-/
import Derived.Test.YtkfcaafjnolhgaaAgI
namespace Go.Proofs.Ytkfcaafjnolhgaa
open Go.RowKit Go.Lib Go.Maps Go.Sort
set_option linter.unusedVariables false
set_option linter.unusedSimpArgs false

set_option maxRecDepth 100000 in
set_option maxHeartbeats 4000000 in
theorem hfix_any (w : World) {base q bm : Nat} {lv : Value} {l : List It} {D : DataW Unit} (h : QuM w base q bm lv l D) (hp : PlD D l) (hk : ∀ y ∈ l, I64 y.no) {i : Nat} (hi : i < l.length) (hh : HpE l l.length i) (hlen : l.length ≤ 1000) :
    Calls Try.prog 49 #[.iface 61 (.pointer (some ⟨q, 0, none⟩)), .int .i64 (i : Nat)] w fun e w' => e = .returned (.tuple #[]) ∧ ∃ l' D', QuV w' base q bm lv l' D' ∧ l'.Perm l ∧ Off (FpQ q bm lv) w w' := by
  have HLe := Lib.hid (qlen_any w h)
  have HDn := Lib.hid (down_any w (n := l.length) ⟨h, hp, List.Perm.refl _, fun _ _ => rfl⟩ hk (Nat.le_refl _) hlen hi hh)
  have HUp : Hid (∀ wx l' D', QuU wx base q bm lv l l.length l' D' → HpU l' l.length i → Calls Try.prog 52 #[.iface 61 (.pointer (some ⟨q, 0, none⟩)), .int .i64 (i : Nat)] wx fun e w' => e = .returned (.tuple #[]) ∧ (∃ l2 D2, QuU w' base q bm lv l l.length l2 D2 ∧ Hp l2 l.length) ∧ Off (FpQ q bm lv) wx w') := Lib.hid (fun wx l' D' hq hu => by
    have := up_any wx hq hk (Nat.le_refl _) hlen hi hu
    unfold ifq at this
    exact this)
  have HFin : Hid (∀ wx l' D', QuU wx base q bm lv l l.length l' D' → Hp l' l.length → QuV wx base q bm lv l' D' ∧ l'.Perm l) := Lib.hid (fun wx l' D' hq hh => ⟨⟨hq.m, hq.p, by rw [hq.len]; exact hh, hq.i64 hk⟩, hq.pe⟩)
  clear h hp hk hi hh hlen
  generalize hll : l.length = n at *
  clear hll
  go_enter Try.func49, Try.ntmps49
  go_wp2_with fail
  refine HLe.out.mono ?_
  rintro e w1 ⟨rfl, rfl⟩
  clear HLe
  go_wp2_with fail
  refine HDn.out.mono ?_
  rintro e w2 ⟨⟨bb, l', D', rfl, hq, hb1, hb2⟩, ho⟩
  have HQ := Lib.hid hq
  have HO := Lib.hid ho
  clear hq ho HDn
  cases bb with
  | true =>
    have HE := Lib.hid (HFin.out w2 l' D' HQ.out (hb1 rfl))
    clear hb1 hb2
    go_wp2_with fail
    go_end0
    exact ⟨rfl, l', D', HE.out.1, HE.out.2, HO.out⟩
  | false =>
    have HU := Lib.hid (HUp.out w2 l' D' HQ.out (hb2 rfl))
    clear hb1 hb2
    go_wp2_with fail
    refine HU.out.mono ?_
    rintro e w3 ⟨rfl, ⟨l2, D2, hq, hh⟩, ho⟩
    have HE := Lib.hid (HFin.out w3 l2 D2 hq hh)
    have HO3 := Lib.hid (HO.out.both ho)
    clear hq hh ho HU
    go_wp2_with fail
    go_end0
    exact ⟨rfl, l2, D2, HE.out.1, HE.out.2, HO3.out⟩
theorem set1_list : ∀ (l : List It) (i : Nat) (d : Int), i < l.length → (l.flatMap itL).set (i * 3) (.int .i64 d) = (l.set i ⟨d, (itm l i).no, (itm l i).tag⟩).flatMap itL
  | [], i, d, h => absurd h (Nat.not_lt_zero _)
  | y :: l, 0, d, h => rfl
  | y :: l, i + 1, d, h => by
    have ih := set1_list l i d (by simpa using h)
    have e2 : itm (y :: l) (i + 1) = itm l i := by unfold itm; simp [List.getD_eq_getElem?_getD]
    rw [List.set_cons_succ, List.flatMap_cons, List.flatMap_cons, e2, ← ih]
    have e : (i + 1) * 3 = i * 3 + 1 + 1 + 1 := by omega
    rw [e]
    rfl
/-- An item's day is another one. -/
theorem QuM.put1 {w : World} {base q bm g cap n : Nat} {l : List It} {D : DataW Unit} (h : QuM w base q bm (.slice (some ⟨g, 0, none⟩) n cap) l D) (hn : n = l.length) {i : Nat} (hi : i < l.length) (d : Int) : QuM (w.setCell ⟨g, i * 3, none⟩ (.int .i64 d)) base q bm (.slice (some ⟨g, 0, none⟩) n cap) (l.set i ⟨d, (itm l i).no, (itm l i).tag⟩) D ∧ Off (FpQ q bm (.slice (some ⟨g, 0, none⟩) n cap)) w (w.setCell ⟨g, i * 3, none⟩ (.int .i64 d)) := by
  subst hn
  obtain ⟨h1, hg⟩ := World.ownsRow.stored h.hl (i * 3) (.int .i64 d)
  rw [set1_list l i d hi] at h1
  have h1' : OwnX itL 3 31 (w.setCell ⟨g, i * 3, none⟩ (.int .i64 d)) base (.slice (some ⟨g, 0, none⟩) l.length cap) (l.set i ⟨d, (itm l i).no, (itm l i).tag⟩) := by
    unfold OwnX
    rw [List.length_set]
    exact h1
  have hgq : q ≠ g := fun e => h.nq (by rw [e]; rfl)
  have hgm : bm ≠ g := fun e => h.nm (by rw [e]; rfl)
  have ho : Off (fun k => k = g) w _ := Off.grown hg (fun k e => by injection e with e; exact e.symm)
  exact ⟨⟨ho.cell h.c0 hgq, ho.cell h.c1 hgq, (ho.frozen (ltF h.c0) hgq).trans h.f0, h1', ho.map h.hm hgm, h.nq, h.nm, h.qm, h.bb⟩, ho.mono (fun k e => .inr (.inr (by rw [e]; rfl)))⟩
set_option maxRecDepth 100000 in
set_option maxHeartbeats 4000000 in
theorem qmove_any (w : World) {base q bm : Nat} {lv : Value} {l : List It} {D : DataW Unit} (h : QuV w base q bm lv l D) {i : Nat} (hi : i < l.length) (hlen : l.length ≤ 1000) (d : Int) :
    Calls Try.prog 39 #[.pointer (some ⟨q, 0, none⟩), .int .i64 (itm l i).no, .int .i64 d] w fun e w' => e = .returned (.tuple #[]) ∧ ∃ l' D', QuV w' base q bm lv l' D' ∧ l'.Perm (l.set i ⟨d, (itm l i).no, (itm l i).tag⟩) ∧ Off (FpQ q bm lv) w w' := by
  have hik : I64 (itm l i).no := h.k _ (by rw [itm_get hi]; exact List.getElem_mem hi)
  have hlk := h.m.look h.p hi hik
  have c0 := h.m.c0
  have c1 := h.m.c1
  obtain ⟨g, cap, rfl, hc1, hc2, hgq, hgm, _, hc⟩ := h.m.at (by omega)
  have x0 := (hc i hi).1
  have fz := h.m.fz rfl (i * 3)
  obtain ⟨hm, ho⟩ := h.m.put1 rfl hi d
  have hset : ∀ j, j < l.length → (itm (l.set i ⟨d, (itm l i).no, (itm l i).tag⟩) j).no = (itm l j).no := fun j hj => by
    by_cases e : j = i
    · subst e; unfold itm; simp [List.getD_eq_getElem?_getD, List.getElem?_set, hj]
    · unfold itm; simp [List.getD_eq_getElem?_getD, List.getElem?_set, Ne.symm e]
  have hoth : ∀ j, j < l.length → j ≠ i → itm (l.set i ⟨d, (itm l i).no, (itm l i).tag⟩) j = itm l j := fun j hj e => by unfold itm; simp [List.getD_eq_getElem?_getD, List.getElem?_set, Ne.symm e]
  have hll : (l.set i ⟨d, (itm l i).no, (itm l i).tag⟩).length = l.length := List.length_set ..
  have hkk : ∀ y ∈ l.set i ⟨d, (itm l i).no, (itm l i).tag⟩, I64 y.no := fun y hy => by
    rcases List.mem_or_eq_of_mem_set hy with hy | rfl
    · exact h.k y hy
    · exact hik
  have HFx := Lib.hid (hfix_any _ hm (h.p.other hll hset) hkk (i := i) (by rw [hll]; exact hi) (by rw [hll]; exact h.h.other hoth) (by rw [hll]; exact hlen))
  have HO := Lib.hid ho
  have p0 : (0 : Int) ≤ (i : Int) := by omega
  have p1 : (i : Int) < (l.length : Int) := by omega
  clear hc h hik hm ho hset hoth hll hkk hi hlen
  generalize (l.set i ⟨d, (itm l i).no, (itm l i).tag⟩) = ls at *
  generalize (itm l i).no = no at *
  go_enter Try.func39, Try.ntmps39
  go_wp2_with fail
  refine HFx.out.mono ?_
  rintro e w2 ⟨rfl, l', D', h1, h2, h3⟩
  have HE := Lib.hid (And.intro h1 (And.intro h2 (HO.out.both h3)))
  clear h1 h2 h3 HFx
  go_wp2_with fail
  go_end0
  exact ⟨rfl, l', D', HE.out⟩

end Go.Proofs.Ytkfcaafjnolhgaa

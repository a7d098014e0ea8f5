/-
  chattelref01.Of: a number's bits.
-/
import Derived.Test.YtedjbmmegjgegaaRefB
namespace Go.Proofs.Ytedjbmmegjgegaa
open Go.RowKit
set_option linter.unusedVariables false

/-- A number as the document's answer has it: its sign, and its bits without noughts at their end. -/
def BigV (w : World) (v : Value) (z : Int) : Prop := ∃ s, v = .agg #[.bool (decide (z < 0)), s] ∧ SL w s (bitsN z.natAbs)
theorem BigV.keep {w w' : World} {v : Value} {z : Int} (h : BigV w v z) (hb : Below w.heap.size w w') : BigV w' v z := by
  obtain ⟨s, rfl, hs⟩ := h
  exact ⟨s, rfl, hs.keep hb⟩

structure OfInv (w : World) (neg : Bool) (v : Value) (out : List Int) (wx : World) : Prop where
  below : Below w.heap.size w wx
  size : w.heap.size + 2 ≤ wx.heap.size
  c0 : wx.cell? ⟨w.heap.size + 1, 0, none⟩ = some (.bool neg)
  c1 : wx.cell? ⟨w.heap.size + 1, 1, none⟩ = some v
  f1 : wx.frozen? ⟨w.heap.size + 1, 1, none⟩ = false
  r0 : wx.cell? ⟨w.heap.size, 0, none⟩ = some (.bool false)
  r1 : wx.cell? ⟨w.heap.size, 1, none⟩ = some (.slice none 0 0)
  g0 : wx.frozen? ⟨w.heap.size, 0, none⟩ = false
  g1 : wx.frozen? ⟨w.heap.size, 1, none⟩ = false
  own : Own wx (w.heap.size + 2) v out

theorem Own.setCell {w : World} {base : Nat} {v : Value} {l : List Int} (h : Own w base v l) {p : Addr} (hp : p.block < base) (u : Value) : Own (w.setCell p u) base v l := by
  obtain ⟨h1, h2⟩ := h
  refine ⟨h1, ?_⟩
  rcases h2 with h2 | ⟨g, cap, cur, rfl, hb, hc, h3⟩
  · exact Or.inl h2
  · exact Or.inr ⟨g, cap, cur, rfl, hb, by rw [Below.heap_setCell _ _ _ _ (by omega)]; exact hc, h3⟩

theorem OfInv.step {w : World} {neg : Bool} {v v' : Value} {out : List Int} {wx w1 : World} {x : Int} {o : Obj} (h : OfInv w neg v out wx) (hg : (wx.alloc o).grownBy w1 v.ownBlock) (ho : Own w1 (w.heap.size + 2) v' (out ++ [x])) :
    OfInv w neg v' (out ++ [x]) (w1.setCell ⟨w.heap.size + 1, 1, none⟩ v') := by
  have hsz := h.size
  have hlt := fun k hk => World.ownsRow.lt h.own k hk
  have hs1 := hg.size
  have hs2 : (wx.alloc o).heap.size = wx.heap.size + 1 := by simp
  have keep : ∀ p : Addr, p.block < w.heap.size + 2 → w1.cell? p = wx.cell? p ∧ w1.frozen? p = wx.frozen? p := fun p hp => by
    have hb : w1.heap[p.block]? = (wx.alloc o).heap[p.block]? := hg.block p.block (by omega) (fun e => by have := (hlt p.block e.symm).1; omega)
    have hb2 : (wx.alloc o).heap[p.block]? = wx.heap[p.block]? := Below.heap_alloc wx o p.block (by omega)
    exact ⟨World.cell?_of_block (hb.trans hb2), World.frozen?_of_block (hb.trans hb2)⟩
  refine ⟨?_, by simp; omega, ?_, ?_, ?_, ?_, ?_, ?_, ?_, ho.setCell (by show w.heap.size + 1 < w.heap.size + 2; omega) _⟩
  · exact ((h.below.alloc (by omega) o).grown hg (by simp; omega) (fun k hk => by have := (hlt k hk).1; omega)).setCell (by show w.heap.size ≤ w.heap.size + 1; omega) _
  · rw [cell_other (by intro e; cases e), (keep _ (by show w.heap.size + 1 < w.heap.size + 2; omega)).1]; exact h.c0
  · exact cell_same (by rw [(keep _ (by show w.heap.size + 1 < w.heap.size + 2; omega)).1]; exact h.c1)
  · rw [World.frozen?_setCell, (keep _ (by show w.heap.size + 1 < w.heap.size + 2; omega)).2]; exact h.f1
  · rw [cell_other (by intro e; have := congrArg Addr.block e; simp at this), (keep _ (by show w.heap.size < w.heap.size + 2; omega)).1]; exact h.r0
  · rw [cell_other (by intro e; have := congrArg Addr.block e; simp at this), (keep _ (by show w.heap.size < w.heap.size + 2; omega)).1]; exact h.r1
  · rw [World.frozen?_setCell, (keep _ (by show w.heap.size < w.heap.size + 2; omega)).2]; exact h.g0
  · rw [World.frozen?_setCell, (keep _ (by show w.heap.size < w.heap.size + 2; omega)).2]; exact h.g1

/-- The field, behind the append and ahead of the store. -/
theorem OfInv.kept {w : World} {neg : Bool} {v : Value} {out : List Int} {wx w1 : World} {o : Obj} (h : OfInv w neg v out wx) (hg : (wx.alloc o).grownBy w1 v.ownBlock) :
    w1.cell? ⟨w.heap.size + 1, 1, none⟩ = some v ∧ w1.frozen? ⟨w.heap.size + 1, 1, none⟩ = false := by
  have hsz := h.size
  have hlt := fun k hk => World.ownsRow.lt h.own k hk
  have hs2 : (wx.alloc o).heap.size = wx.heap.size + 1 := by simp
  have hb : w1.heap[w.heap.size + 1]? = (wx.alloc o).heap[w.heap.size + 1]? := hg.block (w.heap.size + 1) (by omega) (fun e => by have := (hlt _ e.symm).1; omega)
  have hb2 : (wx.alloc o).heap[w.heap.size + 1]? = wx.heap[w.heap.size + 1]? := Below.heap_alloc wx o _ (by omega)
  exact ⟨(World.cell?_of_block (a := ⟨w.heap.size + 1, 1, none⟩) (hb.trans hb2)).trans h.c1, (World.frozen?_of_block (a := ⟨w.heap.size + 1, 1, none⟩) (hb.trans hb2)).trans h.f1⟩

theorem half_abs (n : Int) : (n.tdiv 2).natAbs = n.natAbs / 2 ∧ (n.tmod 2).natAbs = n.natAbs % 2 := by
  rcases Int.lt_or_le n 0 with h | h
  · obtain ⟨m, hm⟩ : ∃ m : Nat, n = -(m : Int) := ⟨n.natAbs, by omega⟩
    subst hm
    rw [Int.neg_tdiv, Int.neg_tmod, Int.tdiv_eq_ediv_of_nonneg (by omega), Int.tmod_eq_emod_of_nonneg (by omega)]
    omega
  · rw [Int.tdiv_eq_ediv_of_nonneg h, Int.tmod_eq_emod_of_nonneg h]; omega

set_option maxHeartbeats 2000000 in
set_option maxRecDepth 100000 in
theorem of_any (n0 : Int) (w : World) (b0 : -9223372036854775808 ≤ n0) (b1 : n0 ≤ 9223372036854775807) :
    Calls Try.prog 54 #[.int .i64 n0] w fun e w' => (∃ v, e = .returned v ∧ BigV w' v n0) ∧ Below w.heap.size w w' := by
  obtain ⟨i0, hi0, hz0, hz1, hz2⟩ := info_parts Try.infoI
  obtain ⟨neg, hneg⟩ : ∃ neg, decide (n0 < 0) = neg := ⟨_, rfl⟩
  have HNeg := Lib.hid hneg
  go_enter Try.func54, Try.ntmps54
  go_wp2
  go_loopw [0, 4] (fun vn vb wx => ∃ (n : Int) (v : Value) (out : List Int), vn = .int .i64 n ∧ -9223372036854775808 ≤ n ∧ n ≤ 9223372036854775807 ∧ OfInv w neg v out wx ∧ bitsN n0.natAbs = out ++ bitsN n.natAbs ∧ out.length + (bitsN n.natAbs).length ≤ 64) (fun vn _ _ => (intOf vn).natAbs)
  case atStart =>
    refine ⟨n0, .slice none 0 0, [], rfl, b0, b1, ⟨?_, by simp, by simp, by simp, by simp, by simp, by simp, by simp, by simp, Own.nil _ _⟩, rfl, ?_⟩
    · exact Below.alloc (Below.alloc (Below.refl _ w) (Nat.le_refl _) _) (by simp) _
    · have := bitsN_len 64 n0.natAbs (by omega); simpa using this
  case round =>
    obtain ⟨n, v, out, rfl, n0', n1', hinv, heq, hlen⟩ := hrel
    obtain ⟨pa, pc, hv, _, _, _⟩ := hinv.own.sl
    subst hv
    have c0 := hinv.c0
    have c1 := hinv.c1
    have f1 := hinv.f1
    have r0 := hinv.r0
    have r1 := hinv.r1
    have g0 := hinv.g0
    have g1 := hinv.g1
    have hsz := hinv.size
    by_cases hz : n = 0
    · have hzb : (n != 0) = false := by rw [hz]; rfl
      have HInv := Lib.hid hinv
      have HEq := Lib.hid heq
      have HZ := Lib.hid hz
      clear hz hinv heq
      go_wp2
      refine bodyPost_ret (v := .agg #[.bool neg, .slice pa out.length pc]) (by simp [results, Try.results54, go_sem, r0, r1]) rfl ?_
      have ho := (HInv.out.own.setCell (p := ⟨w.heap.size, 0, none⟩) (by show w.heap.size < w.heap.size + 2; omega) (.bool neg)).setCell (p := ⟨w.heap.size, 1, none⟩) (by show w.heap.size < w.heap.size + 2; omega) (.slice pa out.length pc)
      have e1 : bitsN n0.natAbs = out := by have := HEq.out; rw [HZ.out] at this; rw [this]; simp [bitsN_zero]
      refine ⟨⟨_, rfl, _, by rw [HNeg.out], by rw [e1]; exact ho.sl⟩, (HInv.out.below.setCell (Nat.le_refl _) _).setCell (Nat.le_refl _) _⟩
    · obtain ⟨r, hr⟩ : ∃ r, n.tmod 2 = r := ⟨_, rfl⟩
      obtain ⟨m, hm⟩ : ∃ m, n.tdiv 2 = m := ⟨_, rfl⟩
      have ha := half_abs n
      rw [hr, hm] at ha
      have hr0 : -1 ≤ r := by omega
      have hr1 : r ≤ 1 := by omega
      have hm0 : -9223372036854775808 ≤ m := by omega
      have hm1 : m ≤ 9223372036854775807 := by omega
      have hwm : wrap64 m = m := IntWalk.wrap64_in _ ⟨hm0, hm1⟩
      have hzb : (n != 0) = true := by simpa using hz
      have hbn : bitsN n.natAbs = ((n.natAbs % 2 : Nat) : Int) :: bitsN (n.natAbs / 2) := bitsN_pos (by omega)
      rw [hbn, ← ha.1] at heq hlen
      have hsnoc : bitsN n0.natAbs = (out ++ [((n.natAbs % 2 : Nat) : Int)]) ++ bitsN m.natAbs := by rw [heq]; simp
      have hdec : m.natAbs < n.natAbs := by omega
      have hlen2 : out.length + 1 + (bitsN m.natAbs).length ≤ 64 := by simp at hlen; omega
      have h63 : out.length + 1 ≤ maxLen := by unfold maxLen; omega
      have hby : (out.length + 1) * 8 ≤ 140737488355328 := by omega
      have hown := hinv.own
      have HInv := Lib.hid hinv
      have HSn := Lib.hid hsnoc
      have HL := Lib.hid hlen2
      have HAb := Lib.hid ha
      have HDec := Lib.hid hdec
      clear hz hinv heq hlen hbn hsnoc hlen2 ha hdec
      by_cases hrn : r < 0
      · have HX : Hid ((1 : Int) = ((n.natAbs % 2 : Nat) : Int)) := Lib.hid (by have := HAb.out; omega)
        clear c0 r0 r1 g0 g1
        go_wp2_with (at_builtin; refine wpList_append_own _ rfl _ _ 99 rfl (w.heap.size + 2) 3 i0 (.int .i64 0) 1 8 Try.underlying99 hi0 hz0 hz1 hz2 rfl (by decide) _ _ _ rfl (hown.alloc _) ⟨wr.heap.size, 0, none⟩ 1 1 [.int .i64 1] rfl rfl (one_cell wr _ _) (one_one _) h63 hby (by simp; omega) ?_; intro v' w1 hown' hgrow _; have HSt := Lib.hid (HInv.out.step hgrow (own_snoc hown')); have k1 := HInv.out.kept hgrow; have k2 := k1.1; have k3 := k1.2; obtain ⟨pa', pc', hv', _, _, _⟩ := (own_snoc hown').sl; clear k1 hown' hgrow hown c1 f1; subst hv')
        go_wp2
        go_roundw
        case rel => exact ⟨m, _, out ++ [1], rfl, hm0, hm1, by have h := HSt.out; simp only [List.length_append, List.length_cons, List.length_nil, Nat.zero_add] at h; exact h, by rw [HX.out]; exact HSn.out, by have := HL.out; rw [List.length_append]; simpa using this⟩
        case measure => exact HDec.out
      · have HX : Hid (r = ((n.natAbs % 2 : Nat) : Int)) := Lib.hid (by have := HAb.out; omega)
        clear c0 r0 r1 g0 g1
        go_wp2_with (at_builtin; refine wpList_append_own _ rfl _ _ 99 rfl (w.heap.size + 2) 3 i0 (.int .i64 0) 1 8 Try.underlying99 hi0 hz0 hz1 hz2 rfl (by decide) _ _ _ rfl (hown.alloc _) ⟨wr.heap.size, 0, none⟩ 1 1 [.int .i64 r] rfl rfl (one_cell wr _ _) (one_one _) h63 hby (by simp; omega) ?_; intro v' w1 hown' hgrow _; have HSt := Lib.hid (HInv.out.step hgrow (own_snoc hown')); have k1 := HInv.out.kept hgrow; have k2 := k1.1; have k3 := k1.2; obtain ⟨pa', pc', hv', _, _, _⟩ := (own_snoc hown').sl; clear k1 hown' hgrow hown c1 f1; subst hv')
        go_wp2
        go_roundw
        case rel => exact ⟨m, _, out ++ [r], rfl, hm0, hm1, by have h := HSt.out; simp only [List.length_append, List.length_cons, List.length_nil, Nat.zero_add] at h; exact h, by rw [HX.out]; exact HSn.out, by have := HL.out; rw [List.length_append]; simpa using this⟩
        case measure => exact HDec.out

end Go.Proofs.Ytedjbmmegjgegaa

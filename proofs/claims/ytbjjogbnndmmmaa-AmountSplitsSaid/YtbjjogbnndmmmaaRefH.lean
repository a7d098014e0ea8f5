/-
  chattellaw01's fits; chattelref01's Sum.
-/
import Derived.Test.YtbjjogbnndmmmaaRefG
namespace Go.Proofs.Ytbjjogbnndmmmaa
open Go.RowKit

/-- The cells that Sum keeps its number in, and those of its result. -/
structure SumI (w wx : World) (z : Int) (sg : Bool) (a : Option Addr) (n c : Nat) : Prop where
  r0 : wx.cell? ⟨w.heap.size, 0, none⟩ = some (.bool false)
  r1 : wx.cell? ⟨w.heap.size, 1, none⟩ = some (.slice none 0 0)
  f0 : wx.frozen? ⟨w.heap.size, 0, none⟩ = false
  f1 : wx.frozen? ⟨w.heap.size, 1, none⟩ = false
  o0 : wx.cell? ⟨w.heap.size + 1, 0, none⟩ = some (.bool sg)
  o1 : wx.cell? ⟨w.heap.size + 1, 1, none⟩ = some (.slice a n c)
  g0 : wx.frozen? ⟨w.heap.size + 1, 0, none⟩ = false
  g1 : wx.frozen? ⟨w.heap.size + 1, 1, none⟩ = false
  big : BigV wx (.agg #[.bool sg, .slice a n c]) z
  bel : Below w.heap.size w wx
  sz : w.heap.size + 2 ≤ wx.heap.size
theorem SumI.keep {w wx w1 : World} {z : Int} {sg : Bool} {a : Option Addr} {n c : Nat} (h : SumI w wx z sg a n c) (hb : Below wx.heap.size wx w1) : SumI w w1 z sg a n c := by
  have hs := h.sz
  have hs1 := hb.size
  have hc : ∀ b i, b ≤ w.heap.size + 1 → w1.cell? ⟨b, i, none⟩ = wx.cell? ⟨b, i, none⟩ := fun b i hb' => hb.cell (p := ⟨b, i, none⟩) (show b < wx.heap.size by omega)
  have hf : ∀ b i, b ≤ w.heap.size + 1 → w1.frozen? ⟨b, i, none⟩ = wx.frozen? ⟨b, i, none⟩ := fun b i hb' => hb.frozen (p := ⟨b, i, none⟩) (show b < wx.heap.size by omega)
  exact ⟨(hc _ _ (by omega)).trans h.r0, (hc _ _ (by omega)).trans h.r1, (hf _ _ (by omega)).trans h.f0, (hf _ _ (by omega)).trans h.f1, (hc _ _ (by omega)).trans h.o0, (hc _ _ (by omega)).trans h.o1, (hf _ _ (by omega)).trans h.g0, (hf _ _ (by omega)).trans h.g1, h.big.keep hb, h.bel.trans (hb.mono (by omega)), by omega⟩
theorem bigv_sign {w : World} {sg : Bool} {v : Value} {z : Int} (h : BigV w (.agg #[.bool sg, v]) z) : sg = decide (z < 0) ∧ SL w v (bitsN z.natAbs) := by
  obtain ⟨s, e, hs⟩ := h
  simp at e
  obtain ⟨e1, e2⟩ := e
  subst e2
  exact ⟨e1, hs⟩
theorem SumI.store {w w1 : World} {z z' : Int} {sg sg' : Bool} {a a' : Option Addr} {n c n' c' : Nat} (h : SumI w w1 z sg a n c) (hb : BigV w1 (.agg #[.bool sg', .slice a' n' c']) z') :
    SumI w ((w1.setCell ⟨w.heap.size + 1, 0, none⟩ (.bool sg')).setCell ⟨w.heap.size + 1, 1, none⟩ (.slice a' n' c')) z' sg' a' n' c' := by
  have hs := h.sz
  obtain ⟨e1, e2⟩ := bigv_sign hb
  refine ⟨?_, ?_, ?_, ?_, ?_, ?_, ?_, ?_, big_stored e1 e2 h.o0 h.o1, Below.setCell (Below.setCell h.bel (show w.heap.size ≤ w.heap.size + 1 by omega) _) (show w.heap.size ≤ w.heap.size + 1 by omega) _, by simpa using hs⟩
  · rw [cell_other (by intro e; simp at e), cell_other (by intro e; simp at e)]; exact h.r0
  · rw [cell_other (by intro e; simp at e), cell_other (by intro e; simp at e)]; exact h.r1
  · simpa using h.f0
  · simpa using h.f1
  · rw [cell_other (by intro e; simp at e)]; exact cell_same h.o0
  · exact cell_same (u := .slice a n c) (by rw [cell_other (by intro e; simp at e)]; exact h.o1)
  · simpa using h.g0
  · simpa using h.g1

theorem pow_big (k : Nat) (hk : 80 ≤ k) {n : Nat} (hn : n < 1208925819614629174706176) : n < 2 ^ k := by
  have h2 : (2 : Nat) ^ 80 ≤ 2 ^ k := Nat.pow_le_pow_right (by omega) hk
  have h3 : (2 : Nat) ^ 80 = 1208925819614629174706176 := by decide
  rw [h3] at h2
  exact Nat.lt_of_lt_of_le hn h2
theorem sum_lim {l : List Int} (h : InI l) {k : Nat} (hk : k ≤ 1000) : (sumK l k).natAbs < 2 ^ 1000 := by
  have h1 := sumK_bd h k
  exact pow_big 1000 (by decide) (by omega)
theorem int_lim {n : Int} (b0 : -9223372036854775808 ≤ n) (b1 : n ≤ 9223372036854775807) : n.natAbs < 2 ^ 1000 := pow_big 1000 (by decide) (by omega)

set_option maxHeartbeats 4000000 in
set_option maxRecDepth 100000 in
theorem rsum_any (l : List Int) (p : Option Addr) (cap : Nat) (w : World) (h : SLF w p l) (hi : InI l) (hn : l.length ≤ 1000) :
    Calls Try.prog 7 #[.slice p l.length cap] w fun e w' => (∃ v, e = .returned v ∧ BigV w' v (sumL l)) ∧ Below w.heap.size w w' := by
  have HP := Lib.hid h
  have HI := Lib.hid hi
  obtain ⟨m, hm⟩ : ∃ m, m = l.length := ⟨_, rfl⟩
  have HM := Lib.hid hm
  rw [← hm] at hn ⊢
  clear h hi hm
  go_enter Try.func7, Try.ntmps7
  go_wp2
  go_loopw [4] (fun vi wx => ∃ (i : Nat) (sg : Bool) (a : Option Addr) (n c : Nat), vi = .int .i64 i ∧ i ≤ m ∧ SumI w wx (sumK l i) sg a n c) (fun vi _ => m - (intOf vi).toNat)
  case atStart =>
    refine ⟨0, false, none, 0, 0, rfl, by omega, ?_⟩
    have c0 : ∀ (w0 : World) (i : Nat) (v : Value), #[Value.bool false, Value.slice none 0 0][i]? = some v → (w0.alloc (.cells #[.bool false, .slice none 0 0] 30)).cell? ⟨w0.heap.size, i, none⟩ = some v := fun w0 i v hv => new_at hv
    have z1 : (w.alloc (.cells #[.bool false, .slice none 0 0] 30)).heap.size = w.heap.size + 1 := by simp
    have hq : Below w.heap.size w ((w.alloc (.cells #[.bool false, .slice none 0 0] 30)).alloc (.cells #[.bool false, .slice none 0 0] 30)) := Below.alloc (Below.alloc (Below.refl _ w) (Nat.le_refl _) _) (by simp) _
    refine ⟨?_, ?_, ?_, ?_, ?_, ?_, ?_, ?_, ?_, hq, by simp⟩
    · rw [World.cell?_alloc_past _ _ _ (by rw [z1]; show w.heap.size < w.heap.size + 1; omega)]; exact c0 w 0 _ rfl
    · rw [World.cell?_alloc_past _ _ _ (by rw [z1]; show w.heap.size < w.heap.size + 1; omega)]; exact c0 w 1 _ rfl
    · rw [World.frozen?_alloc_past _ _ _ (by rw [z1]; show w.heap.size < w.heap.size + 1; omega)]; exact World.frozen?_alloc_at _ _ _ _ rfl
    · rw [World.frozen?_alloc_past _ _ _ (by rw [z1]; show w.heap.size < w.heap.size + 1; omega)]; exact World.frozen?_alloc_at _ _ _ _ rfl
    · rw [← z1]; exact c0 _ 0 _ rfl
    · rw [← z1]; exact c0 _ 1 _ rfl
    · exact World.frozen?_alloc_at _ _ _ _ z1.symm
    · exact World.frozen?_alloc_at _ _ _ _ z1.symm
    · refine ⟨_, rfl, none, 0, ?_, ?_, by omega, Or.inl ?_⟩
      · show Value.slice none 0 0 = .slice none (bitsN (0 : Int).natAbs).length 0
        rw [show (0 : Int).natAbs = 0 from rfl, bitsN_zero]; rfl
      · show (bitsN (0 : Int).natAbs).length ≤ 0
        rw [show (0 : Int).natAbs = 0 from rfl, bitsN_zero]; exact Nat.le_refl _
      · show bitsN (0 : Int).natAbs = []
        rw [show (0 : Int).natAbs = 0 from rfl, bitsN_zero]
  case round =>
    obtain ⟨i, sg, a, n, c, rfl, him, hsi⟩ := hrel
    obtain ⟨r0, r1, f0, f1, o0, o1, g0, g1, hbig, hbel, hsz⟩ := id hsi
    have HSI := Lib.hid hsi
    by_cases hc : i < m
    · obtain ⟨bb, oo, hpa, hpb, hpr⟩ := (SLF.keep HP.out hbel).cell (t := i) (by have := HM.out; omega)
      obtain ⟨x, hx⟩ : ∃ x, x = l.getD i 0 := ⟨_, rfl⟩
      have hcx : wr.cell? ⟨bb, oo + i, none⟩ = some (.int .i64 x) := by rw [hx]; exact hpr i (by have := HM.out; omega)
      subst hpa
      have hxb : -9223372036854775808 ≤ x ∧ x ≤ 9223372036854775807 := by rw [hx]; exact HI.out i
      have HOf := Lib.hid (of_any x wr.drew hxb.1 hxb.2)
      have HXb := Lib.hid hxb
      have HX := Lib.hid hx
      have i1 : (i : Int) < (m : Int) := by omega
      have hlim := sum_lim HI.out (k := i) (by omega)
      have HLim := Lib.hid hlim
      clear hsi hbig hbel hxb hx hpr hpb hlim
      go_upto_region 5 with fail
      go_region_with (first | (go_at_call 15; refine HOf.out.mono ?_; rintro e w1 ⟨⟨v1, rfl, hv1⟩, hb1⟩; obtain ⟨a1, c1, hve, ga⟩ := id hv1.open; have hsi := HSI.out.keep (w1 := w1) ⟨hb1.os, hb1.tape, hb1.output, hb1.size, hb1.block⟩; obtain ⟨r0', r1', f0', f1', o0', o1', g0', g1', hbig', hbel', hsz'⟩ := id hsi; have HAdd := Lib.hid (radd_any (sumK l i) x _ _ w1 hbig' hv1 HLim.out (int_lim HXb.out.1 HXb.out.2)); have HSI1 := Lib.hid hsi; subst hve; clear hv1 hb1 hsi hbig' hbel' ga) | (go_at_call 14; refine HAdd.out.mono ?_; rintro e w2 ⟨⟨v2, rfl, hv2⟩, hb2⟩; obtain ⟨a2, c2, hve2, ga2⟩ := id hv2.open; obtain ⟨sg2, hsg2⟩ : ∃ sg2, sg2 = decide (sumK l i + x < 0) := ⟨_, rfl⟩; obtain ⟨n2, hn2⟩ : ∃ n2, n2 = (bitsN (sumK l i + x).natAbs).length := ⟨_, rfl⟩; rw [← hsg2, ← hn2] at hve2; subst hve2; have hsi2 := HSI1.out.keep hb2; obtain ⟨r0'', r1'', f0'', f1'', o0'', o1'', g0'', g1'', hbig'', hbel'', hsz''⟩ := id hsi2; have HSI2 := Lib.hid (hsi2.store hv2); clear hv2 hb2 hsi2 hbig'' hbel'' ga2 hsg2 hn2))
      all_goals go_wp2
      all_goals exact ⟨⟨i + 1, sg2, a2, n2, c2, by go_num, by omega, by have := HSI2.out; rw [HX.out] at this; exact this⟩, by simp [intOf]; omega⟩
    · have e : i = m := by omega
      have HE := Lib.hid e
      obtain ⟨e1, e2⟩ := bigv_sign hbig
      have HSg := Lib.hid e1
      have HSl := Lib.hid e2
      have HBel := Lib.hid hbel
      clear e hsi hbig hbel e1 e2
      go_wp2
      have hb := big_stored (r := w.heap.size) HSg.out HSl.out r0 r1
      exact bodyPost_ret (v := .agg #[.bool sg, .slice a n c]) (by simp [results, Try.results7, go_sem, r0, r1]) rfl ⟨⟨_, rfl, by unfold sumL; rw [← HM.out, ← HE.out]; exact hb⟩, Below.setCell (Below.setCell HBel.out (Nat.le_refl _) _) (Nat.le_refl _) _⟩

end Go.Proofs.Ytbjjogbnndmmmaa

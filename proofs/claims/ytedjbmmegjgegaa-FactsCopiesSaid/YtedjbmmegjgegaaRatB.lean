/-
  Package ratio: Check, lowest, product.
-/
import Derived.Test.YtedjbmmegjgegaaRatM
import Derived.IntWalk
namespace Go.Proofs.Ytedjbmmegjgegaa
open Go.RowKit
set_option linter.unusedVariables false

theorem drewN_belowR (w : World) (n : Nat) : Below w.heap.size w (w.drewN n) := ⟨rfl, rfl, rfl, Nat.le_refl _, fun _ _ => rfl⟩

theorem gcd_le_right {n d : Int} (h : 0 < d) : ((Int.gcd n d : Nat) : Int) ≤ d := by
  have h1 : Int.gcd n d ≤ d.natAbs := Nat.gcd_le_right _ (by omega)
  omega

theorem check_any (n d : Int) (w : World) (n0 : -9223372036854775808 ≤ n) (n1 : n ≤ 9223372036854775807) (d0 : -9223372036854775808 ≤ d) (d1 : d ≤ 9223372036854775807) :
    Calls Try.prog 41 #[.agg #[.int .i64 n, .int .i64 d]] w fun e w' => e = .returned (.int .i64 (chkE n d)) ∧ Below w.heap.size w w' := by
  have hal : ∀ o, Below w.heap.size w (w.alloc o) := fun o => Below.alloc (Below.refl _ _) (Nat.le_refl _) _
  have HAl := Lib.hid hal
  clear hal
  rcases Int.lt_trichotomy d 0 with h | h | h
  · have e : chkE n d = 13 := by unfold chkE okB; rw [if_neg (by omega), decide_eq_false (show ¬ 0 < d by omega)]; rfl
    rw [e]
    have hz : (d == 0) = false := by simp; omega
    clear e
    go_enter Try.func41, Try.ntmps41
    go_wp2
    go_ret
    exact ⟨rfl, HAl.out _⟩
  · subst h
    have e : chkE n 0 = 12 := rfl
    rw [e]
    clear e
    go_enter Try.func41, Try.ntmps41
    go_wp2
    go_ret
    exact ⟨rfl, HAl.out _⟩
  · have hz : (d == 0) = false := by simp; omega
    have hg := gcd_le_right (n := n) h
    have HC := Lib.hid (fun w => common_any n d w n0 n1 d0 d1 (by omega))
    by_cases hm : n = -9223372036854775808
    · have e : chkE n d = 13 := by unfold chkE okB; rw [if_neg (by omega), decide_eq_false (show ¬ n ≠ -9223372036854775808 by omega), Bool.false_and, Bool.and_false]; rfl
      rw [e]
      clear e
      subst hm
      go_enter Try.func41, Try.ntmps41
      go_wp2
      go_ret
      exact ⟨rfl, HAl.out _⟩
    · have hmb : (n == -9223372036854775808) = false := by simpa using hm
      by_cases h1 : Int.gcd n d = 1
      · have e : chkE n d = 0 := by unfold chkE okB; rw [if_neg (by omega), decide_eq_true (show 0 < d by omega), decide_eq_true (show n ≠ -9223372036854775808 from hm), decide_eq_true h1]; rfl
        rw [e]
        rw [h1] at HC
        clear e hm h1 hg
        go_enter Try.func41, Try.ntmps41
        go_wp2_with (go_at_call 50; refine (HC.out _).mono ?_; rintro e w' ⟨rfl, q, rfl⟩)
        go_ret
        exact ⟨rfl, (HAl.out _).trans ((drewN_belowR _ _).mono (by simp))⟩
      · have e : chkE n d = 13 := by unfold chkE okB; rw [if_neg (by omega), decide_eq_false h1, Bool.and_false, Bool.and_false]; rfl
        rw [e]
        have h2 : (((Int.gcd n d : Nat) : Int) != 1) = true := by simp; omega
        have h3 : (((Int.gcd n d : Nat) : Int) == 1) = false := by simp; omega
        clear e hm h1 hg
        generalize ((Int.gcd n d : Nat) : Int) = g at *
        go_enter Try.func41, Try.ntmps41
        go_wp2_with (go_at_call 50; refine (HC.out _).mono ?_; rintro e w' ⟨rfl, q, rfl⟩)
        go_ret
        exact ⟨rfl, (HAl.out _).trans ((drewN_belowR _ _).mono (by simp))⟩

/-- Two ratios and a result, in three new blocks. -/
structure Box2 (w wx : World) (na da nb db : Int) : Prop where
  a0 : wx.cell? ⟨w.heap.size, 0, none⟩ = some (.int .i64 na)
  a1 : wx.cell? ⟨w.heap.size, 1, none⟩ = some (.int .i64 da)
  b0 : wx.cell? ⟨w.heap.size + 1, 0, none⟩ = some (.int .i64 nb)
  b1 : wx.cell? ⟨w.heap.size + 1, 1, none⟩ = some (.int .i64 db)
  r0 : wx.cell? ⟨w.heap.size + 1 + 1, 0, none⟩ = some (.int .i64 0)
  r1 : wx.cell? ⟨w.heap.size + 1 + 1, 1, none⟩ = some (.int .i64 0)
  f0 : wx.frozen? ⟨w.heap.size + 1 + 1, 0, none⟩ = false
  f1 : wx.frozen? ⟨w.heap.size + 1 + 1, 1, none⟩ = false
  bel : Below w.heap.size w wx
  sz : w.heap.size + 3 ≤ wx.heap.size
theorem Box2.keep {w wx w1 : World} {na da nb db : Int} (h : Box2 w wx na da nb db) (hb : Below wx.heap.size wx w1) : Box2 w w1 na da nb db := by
  have hs := h.sz
  have hs1 := hb.size
  have hc : ∀ b i, b < w.heap.size + 3 → w1.cell? ⟨b, i, none⟩ = wx.cell? ⟨b, i, none⟩ := fun b i hb' => hb.cell (p := ⟨b, i, none⟩) (show b < wx.heap.size by omega)
  have hf : ∀ b i, b < w.heap.size + 3 → w1.frozen? ⟨b, i, none⟩ = wx.frozen? ⟨b, i, none⟩ := fun b i hb' => hb.frozen (p := ⟨b, i, none⟩) (show b < wx.heap.size by omega)
  exact ⟨(hc _ _ (by omega)).trans h.a0, (hc _ _ (by omega)).trans h.a1, (hc _ _ (by omega)).trans h.b0, (hc _ _ (by omega)).trans h.b1, (hc _ _ (by omega)).trans h.r0, (hc _ _ (by omega)).trans h.r1, (hf _ _ (by omega)).trans h.f0, (hf _ _ (by omega)).trans h.f1, h.bel.trans (hb.mono (by omega)), by omega⟩
theorem Box2.start (w : World) (na da nb db : Int) (e : TypeId) : Box2 w (((w.alloc (.cells #[.int .i64 na, .int .i64 da] e)).alloc (.cells #[.int .i64 nb, .int .i64 db] e)).alloc (.cells #[.int .i64 0, .int .i64 0] e)) na da nb db := by
  have z1 : (w.alloc (.cells #[.int .i64 na, .int .i64 da] e)).heap.size = w.heap.size + 1 := by simp
  have z2 : ((w.alloc (.cells #[.int .i64 na, .int .i64 da] e)).alloc (.cells #[.int .i64 nb, .int .i64 db] e)).heap.size = w.heap.size + 1 + 1 := by simp
  have at0 : ∀ (x : World) (c : Array Value) (i : Nat) (v : Value), c[i]? = some v → (x.alloc (.cells c e)).cell? ⟨x.heap.size, i, none⟩ = some v := fun x c i v h => by rw [World.cell?_alloc_at _ _ _ _ rfl]; exact h
  refine ⟨?_, ?_, ?_, ?_, ?_, ?_, ?_, ?_, Below.alloc (Below.alloc (Below.alloc (Below.refl _ w) (Nat.le_refl _) _) (by simp) _) (by simp; omega) _, by simp⟩
  · rw [World.cell?_alloc_past _ _ _ (by rw [z2]; show w.heap.size < w.heap.size + 1 + 1; omega), World.cell?_alloc_past _ _ _ (by rw [z1]; show w.heap.size < w.heap.size + 1; omega)]; exact at0 _ _ _ _ rfl
  · rw [World.cell?_alloc_past _ _ _ (by rw [z2]; show w.heap.size < w.heap.size + 1 + 1; omega), World.cell?_alloc_past _ _ _ (by rw [z1]; show w.heap.size < w.heap.size + 1; omega)]; exact at0 _ _ _ _ rfl
  · rw [World.cell?_alloc_past _ _ _ (by rw [z2]; show w.heap.size + 1 < w.heap.size + 1 + 1; omega), ← z1]; exact at0 _ _ _ _ rfl
  · rw [World.cell?_alloc_past _ _ _ (by rw [z2]; show w.heap.size + 1 < w.heap.size + 1 + 1; omega), ← z1]; exact at0 _ _ _ _ rfl
  · rw [← z2]; exact at0 _ _ _ _ rfl
  · rw [← z2]; exact at0 _ _ _ _ rfl
  · exact World.frozen?_alloc_at _ _ _ _ z2.symm
  · exact World.frozen?_alloc_at _ _ _ _ z2.symm
/-- The result, stored. -/
theorem Box2.done {w wx : World} {na da nb db : Int} (h : Box2 w wx na da nb db) (x y : Value) : Below w.heap.size w ((wx.setCell ⟨w.heap.size + 1 + 1, 0, none⟩ x).setCell ⟨w.heap.size + 1 + 1, 1, none⟩ y) :=
  Below.setCell (Below.setCell h.bel (show w.heap.size ≤ w.heap.size + 1 + 1 by omega) _) (show w.heap.size ≤ w.heap.size + 1 + 1 by omega) _

end Go.Proofs.Ytedjbmmegjgegaa

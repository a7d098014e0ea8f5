/-
  chattelref02: numbers through others (BigQ); blocks of values that a function keeps; Of.
-/
import Derived.Test.YtljhjjkbpckkjaaRefO
import Derived.Deep.RegionHeld3
namespace Go.Proofs.Ytljhjjkbpckkjaa
open Go.RowKit
set_option linter.unusedVariables false

/-- Blocks that hold values. -/
structure HeldV (w wx : World) (L : List (Nat × List Value)) : Prop where
  bel : Below w.heap.size w wx
  all : ∀ t ∈ L, t.1 < wx.heap.size ∧ w.heap.size ≤ t.1 ∧ ∀ i v, t.2[i]? = some v → wx.cell? ⟨t.1, i, none⟩ = some v ∧ wx.frozen? ⟨t.1, i, none⟩ = false
theorem HeldV.nil (w : World) : HeldV w w [] := ⟨Below.refl _ _, fun _ h => by cases h⟩
theorem HeldV.keep {w wx w1 : World} {L : List (Nat × List Value)} (h : HeldV w wx L) (hb : Below wx.heap.size wx w1) : HeldV w w1 L :=
  ⟨h.bel.trans (hb.mono h.bel.size), fun t ht => by
    obtain ⟨h1, h0, h2⟩ := h.all t ht
    exact ⟨Nat.lt_of_lt_of_le h1 hb.size, h0, fun i v hv => ⟨(hb.cell (p := ⟨t.1, i, none⟩) h1).trans (h2 i v hv).1, (hb.frozen (p := ⟨t.1, i, none⟩) h1).trans (h2 i v hv).2⟩⟩⟩
theorem HeldV.push {w wx : World} {L : List (Nat × List Value)} (h : HeldV w wx L) (l : List Value) (e : TypeId) : HeldV w (wx.alloc (.cells l.toArray e)) ((wx.heap.size, l) :: L) := by
  have hb : Below wx.heap.size wx (wx.alloc (.cells l.toArray e)) := Below.alloc (Below.refl _ _) (Nat.le_refl _) _
  have h' := h.keep hb
  refine ⟨h'.bel, fun t ht => ?_⟩
  rcases List.mem_cons.1 ht with rfl | ht
  · refine ⟨by simp, h.bel.size, fun i v hv => ⟨?_, World.frozen?_alloc_at _ _ _ _ rfl⟩⟩
    rw [World.cell?_alloc_at _ _ _ _ rfl]; simpa using hv
  · exact h'.all t ht
theorem HeldV.get {w wx : World} {L : List (Nat × List Value)} (h : HeldV w wx L) (i : Nat) {Q : Nat} {l : List Value} (hi : L[i]? = some (Q, l)) (j : Nat) {v : Value} (hj : l[j]? = some v) : wx.cell? ⟨Q, j, none⟩ = some v ∧ wx.frozen? ⟨Q, j, none⟩ = false :=
  (h.all _ (List.mem_of_getElem? hi)).2.2 j v hj
theorem HeldV.lt {w wx : World} {L : List (Nat × List Value)} (h : HeldV w wx L) (i : Nat) {Q : Nat} {l : List Value} (hi : L[i]? = some (Q, l)) : Q < wx.heap.size := (h.all _ (List.mem_of_getElem? hi)).1

/-- A number through another one. -/
def BigQ (w : World) (v : Value) (n d : Int) : Prop := ∃ s t, v = .agg #[.bool (decide (n < 0)), s, .bool (decide (d < 0)), t] ∧ SL w s (bitsN n.natAbs) ∧ SL w t (bitsN d.natAbs)
theorem BigQ.keep {w w' : World} {v : Value} {n d : Int} (h : BigQ w v n d) (hb : Below w.heap.size w w') : BigQ w' v n d := by
  obtain ⟨s, t, e, h1, h2⟩ := h
  exact ⟨s, t, e, h1.keep hb, h2.keep hb⟩
/-- A number's shape. -/
theorem BigV.shape {w : World} {v : Value} {z : Int} (h : BigV w v z) : ∃ s a n c, v = .agg #[.bool s, .slice a n c] ∧ BigV w (.agg #[.bool s, .slice a n c]) z := by
  obtain ⟨a, c, e, _⟩ := h.open
  exact ⟨_, a, _, c, e, e ▸ h⟩
theorem BigQ.parts {w : World} {v : Value} {n d : Int} (h : BigQ w v n d) : ∃ s a k c s' a' k' c', v = .agg #[.bool s, .slice a k c, .bool s', .slice a' k' c'] ∧ BigV w (.agg #[.bool s, .slice a k c]) n ∧ BigV w (.agg #[.bool s', .slice a' k' c']) d ∧ s = decide (n < 0) ∧ s' = decide (d < 0) := by
  obtain ⟨s, t, rfl, h1, h2⟩ := h
  obtain ⟨a, c, rfl, _⟩ := id h1
  obtain ⟨a', c', rfl, _⟩ := id h2
  exact ⟨_, a, _, c, _, a', _, c', rfl, ⟨_, rfl, h1⟩, ⟨_, rfl, h2⟩, rfl, rfl⟩
theorem BigQ.of {w : World} {s s' : Bool} {x x' : Value} {n d : Int} (h : BigV w (.agg #[.bool s, x]) n) (h' : BigV w (.agg #[.bool s', x']) d) : BigQ w (.agg #[.bool s, x, .bool s', x']) n d := by
  obtain ⟨e1, e2⟩ := bigv_sign h
  obtain ⟨e3, e4⟩ := bigv_sign h'
  exact ⟨_, _, by rw [e1, e3], e2, e4⟩

/-- Stores of bools and slices keep what numbers read. -/
theorem BigV.set {w : World} {v : Value} {z : Int} (h : BigV w v z) {p : Addr} {u : Value} (hu : w.cell? p = some u) (hn : ∀ n, u ≠ .int .i64 n) (x : Value) : BigV (w.setCell p x) v z := by
  obtain ⟨s, e, hs⟩ := h
  exact ⟨s, e, hs.setCell hu hn x⟩
theorem four_stored {w : World} {Q : Nat} {v : Value} {z : Int} (h : BigV w v z) {s0 s1 : Bool} {a0 a1 : Option Addr} {n0 n1 c0 c1 : Nat} (h0 : w.cell? ⟨Q, 0, none⟩ = some (.bool s0)) (h1 : w.cell? ⟨Q, 1, none⟩ = some (.slice a0 n0 c0)) (h2 : w.cell? ⟨Q, 2, none⟩ = some (.bool s1)) (h3 : w.cell? ⟨Q, 3, none⟩ = some (.slice a1 n1 c1)) (x0 x1 x2 x3 : Value) :
    BigV ((((w.setCell ⟨Q, 0, none⟩ x0).setCell ⟨Q, 1, none⟩ x1).setCell ⟨Q, 2, none⟩ x2).setCell ⟨Q, 3, none⟩ x3) v z := by
  have co : ∀ {w : World} {o o' : Nat} {v : Value}, o ≠ o' → (w.setCell ⟨Q, o, none⟩ v).cell? ⟨Q, o', none⟩ = w.cell? ⟨Q, o', none⟩ := fun {w o o' v} h => cell_other (by intro e; injection e with e1 e2; exact h e2)
  refine (((h.set h0 (by intro n; simp) _).set (u := .slice a0 n0 c0) ?_ (by intro n; simp) _).set (u := .bool s1) ?_ (by intro n; simp) _).set (u := .slice a1 n1 c1) ?_ (by intro n; simp) _
  · rw [co (by decide)]; exact h1
  · rw [co (by decide), co (by decide)]; exact h2
  · rw [co (by decide), co (by decide), co (by decide)]; exact h3
theorem four_below {w wx : World} {Q : Nat} (h : Below w.heap.size w wx) (hQ : w.heap.size ≤ Q) (x0 x1 x2 x3 : Value) : Below w.heap.size w ((((wx.setCell ⟨Q, 0, none⟩ x0).setCell ⟨Q, 1, none⟩ x1).setCell ⟨Q, 2, none⟩ x2).setCell ⟨Q, 3, none⟩ x3) :=
  Below.setCell (Below.setCell (Below.setCell (Below.setCell h hQ _) hQ _) hQ _) hQ _

theorem HeldV.two (w : World) (l l' : List Value) (e e' : TypeId) : HeldV w ((w.alloc (.cells l.toArray e)).alloc (.cells l'.toArray e')) [(w.heap.size + 1, l'), (w.heap.size, l)] := by
  have h := ((HeldV.nil w).push l e).push l' e'
  have z1 : (w.alloc (.cells l.toArray e)).heap.size = w.heap.size + 1 := by simp
  rw [z1] at h
  exact h
theorem HeldV.three (w : World) (l l' l'' : List Value) (e e' e'' : TypeId) : HeldV w (((w.alloc (.cells l.toArray e)).alloc (.cells l'.toArray e')).alloc (.cells l''.toArray e'')) [(w.heap.size + 1 + 1, l''), (w.heap.size + 1, l'), (w.heap.size, l)] := by
  have h := (((HeldV.nil w).push l e).push l' e').push l'' e''
  have z1 : (w.alloc (.cells l.toArray e)).heap.size = w.heap.size + 1 := by simp
  have z2 : ((w.alloc (.cells l.toArray e)).alloc (.cells l'.toArray e')).heap.size = w.heap.size + 1 + 1 := by simp
  rw [z1, z2] at h
  exact h
theorem undrewB {w w' : World} (h : Below w.drew.heap.size w.drew w') : Below w.heap.size w w' := ⟨h.os, h.tape, h.output, h.size, h.block⟩

set_option maxHeartbeats 4000000 in
set_option maxRecDepth 100000 in
theorem rof_any (n d : Int) (w : World) (n0 : -9223372036854775808 ≤ n) (n1 : n ≤ 9223372036854775807) (d0 : -9223372036854775808 ≤ d) (d1 : d ≤ 9223372036854775807) :
    Calls Try.prog 26 #[.agg #[.int .i64 n, .int .i64 d]] w fun e w' => (∃ v, e = .returned v ∧ BigQ w' v n d) ∧ Below w.heap.size w w' := by
  have HOn := Lib.hid (fun w => of_any n w n0 n1)
  have HOd := Lib.hid (fun w => of_any d w d0 d1)
  clear n0 n1 d0 d1
  go_enter Try.func26, Try.ntmps26
  go_wp2_with fail
  have HK := Lib.hid (HeldV.two w [.int .i64 n, .int .i64 d] [.bool false, .slice none 0 0, .bool false, .slice none 0 0] 42 48)
  generalize ((w.alloc (.cells #[.int .i64 n, .int .i64 d] 42)).alloc (.cells #[.bool false, .slice none 0 0, .bool false, .slice none 0 0] 48)) = W at HK ⊢
  obtain ⟨x0, _⟩ := HK.out.get 1 rfl 0 rfl
  obtain ⟨x1, _⟩ := HK.out.get 1 rfl 1 rfl
  go_region_held3 (fun w' => w'.cell? ⟨w.heap.size, 0, none⟩ = some (.int .i64 n) ∧ w'.cell? ⟨w.heap.size, 1, none⟩ = some (.int .i64 d)) (first | go_keep | exact ⟨x0', x1'⟩ | exact ⟨x0'', x1''⟩)
    (first | (go_at_call 15; (with_reducible refine (HOn.out _).mono ?_); rintro e w1 ⟨⟨v1, rfl, hv1⟩, hb1⟩; obtain ⟨s1, a1, k1, c1, hve, hv1'⟩ := hv1.shape; have HV1 := Lib.hid hv1'; have HK1 := Lib.hid (HK.out.keep (undrewB hb1)); obtain ⟨x0', _⟩ := HK1.out.get 1 rfl 0 rfl; obtain ⟨x1', _⟩ := HK1.out.get 1 rfl 1 rfl; subst hve; clear hv1 hv1' hb1) | (go_at_call 15; (with_reducible refine (HOd.out _).mono ?_); rintro e w2 ⟨⟨v2, rfl, hv2⟩, hb2⟩; obtain ⟨s2, a2, k2, c2, hve2, hv2'⟩ := hv2.shape; have HV2 := Lib.hid hv2'; have HV12 := Lib.hid (HV1.out.keep hb2); have HK2 := Lib.hid (HK1.out.keep hb2); obtain ⟨x0'', _⟩ := HK2.out.get 1 rfl 0 rfl; obtain ⟨x1'', _⟩ := HK2.out.get 1 rfl 1 rfl; obtain ⟨r0, g0⟩ := HK2.out.get 0 rfl 0 rfl; obtain ⟨r1, g1⟩ := HK2.out.get 0 rfl 1 rfl; obtain ⟨r2, g2⟩ := HK2.out.get 0 rfl 2 rfl; obtain ⟨r3, g3⟩ := HK2.out.get 0 rfl 3 rfl; subst hve2; clear hv2 hv2' hb2))
  go_wp2
  exact bodyPost_ret (v := .agg #[.bool s1, .slice a1 k1 c1, .bool s2, .slice a2 k2 c2]) (by simp [results, Try.results26, go_sem, r0, r1, r2, r3]) rfl ⟨⟨_, rfl, BigQ.of (four_stored HV12.out r0 r1 r2 r3 _ _ _ _) (four_stored HV2.out r0 r1 r2 r3 _ _ _ _)⟩, four_below HK2.out.bel (by omega) _ _ _ _⟩

end Go.Proofs.Ytljhjjkbpckkjaa

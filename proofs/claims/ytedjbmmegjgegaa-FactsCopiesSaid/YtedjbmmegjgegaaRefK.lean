/-
  chattelref01's Parts: its walk.
-/
import Derived.Test.YtedjbmmegjgegaaRefJ
import Derived.Test.YtedjbmmegjgegaaCells
namespace Go.Proofs.Ytedjbmmegjgegaa
open Go.RowKit
set_option linter.unusedVariables false

/-- The cells that Parts keeps. -/
structure PartsW (w wx : World) (a : Option Addr) (n c : Nat) (b : Option Addr) (m d : Nat) (ql : List Int) : Prop where
  a1 : wx.cell? ⟨w.heap.size, 1, none⟩ = some (.slice a n c)
  b1 : wx.cell? ⟨w.heap.size + 1, 1, none⟩ = some (.slice b m d)
  r0 : wx.cell? ⟨w.heap.size + 1 + 1, 0, none⟩ = some (.bool false)
  r1 : wx.cell? ⟨w.heap.size + 1 + 1, 1, none⟩ = some (.slice none 0 0)
  f0 : wx.frozen? ⟨w.heap.size + 1 + 1, 0, none⟩ = false
  f1 : wx.frozen? ⟨w.heap.size + 1 + 1, 1, none⟩ = false
  s0 : wx.cell? ⟨w.heap.size + 1 + 1 + 1, 0, none⟩ = some (.bool false)
  s1 : wx.cell? ⟨w.heap.size + 1 + 1 + 1, 1, none⟩ = some (.slice none 0 0)
  g0 : wx.frozen? ⟨w.heap.size + 1 + 1 + 1, 0, none⟩ = false
  g1 : wx.frozen? ⟨w.heap.size + 1 + 1 + 1, 1, none⟩ = false
  qr : Row wx (w.heap.size + 1 + 1 + 1 + 1) 0 ql
  qf : ∀ t, wx.frozen? ⟨w.heap.size + 1 + 1 + 1 + 1, t, none⟩ = false
  bel : Below w.heap.size w wx
  sz : w.heap.size + 5 ≤ wx.heap.size
theorem PartsW.keep {w wx w1 : World} {a : Option Addr} {n c : Nat} {b : Option Addr} {m d : Nat} {ql : List Int} (h : PartsW w wx a n c b m d ql) (hb : Below wx.heap.size wx w1) : PartsW w w1 a n c b m d ql := by
  have hs := h.sz
  have hs1 := hb.size
  have hc : ∀ b i, b < w.heap.size + 5 → w1.cell? ⟨b, i, none⟩ = wx.cell? ⟨b, i, none⟩ := fun b i hb' => hb.cell (p := ⟨b, i, none⟩) (show b < wx.heap.size by omega)
  have hf : ∀ b i, b < w.heap.size + 5 → w1.frozen? ⟨b, i, none⟩ = wx.frozen? ⟨b, i, none⟩ := fun b i hb' => hb.frozen (p := ⟨b, i, none⟩) (show b < wx.heap.size by omega)
  exact ⟨(hc _ _ (by omega)).trans h.a1, (hc _ _ (by omega)).trans h.b1, (hc _ _ (by omega)).trans h.r0, (hc _ _ (by omega)).trans h.r1, (hf _ _ (by omega)).trans h.f0, (hf _ _ (by omega)).trans h.f1,
    (hc _ _ (by omega)).trans h.s0, (hc _ _ (by omega)).trans h.s1, (hf _ _ (by omega)).trans h.g0, (hf _ _ (by omega)).trans h.g1, fun t ht => (hc _ _ (by omega)).trans (h.qr t ht), fun t => (hf _ _ (by omega)).trans (h.qf t), h.bel.trans (hb.mono (by omega)), by omega⟩
theorem PartsW.store {w wx : World} {a : Option Addr} {n c : Nat} {b : Option Addr} {m d : Nat} {ql : List Int} (h : PartsW w wx a n c b m d ql) {k : Nat} (hk : k < ql.length) (v : Int) : PartsW w (wx.setCell ⟨w.heap.size + 1 + 1 + 1 + 1, k, none⟩ (.int .i64 v)) a n c b m d (ql.set k v) := by
  have ne : ∀ (b i : Nat), b < w.heap.size + 4 → (wx.setCell ⟨w.heap.size + 1 + 1 + 1 + 1, k, none⟩ (.int .i64 v)).cell? ⟨b, i, none⟩ = wx.cell? ⟨b, i, none⟩ := fun b i hb => cell_other (by intro e; injection e with e; omega)
  refine ⟨(ne _ _ (by omega)).trans h.a1, (ne _ _ (by omega)).trans h.b1, (ne _ _ (by omega)).trans h.r0, (ne _ _ (by omega)).trans h.r1, by simpa using h.f0, by simpa using h.f1, (ne _ _ (by omega)).trans h.s0, (ne _ _ (by omega)).trans h.s1, by simpa using h.g0, by simpa using h.g1, fun t ht => ?_, fun t => by simpa using h.qf t, Below.setCell h.bel (show w.heap.size ≤ w.heap.size + 1 + 1 + 1 + 1 by omega) _, by simpa using h.sz⟩
  rw [List.length_set] at ht
  rw [getD_set _ _ _ _ hk, Nat.zero_add]
  have h1 := h.qr t ht
  rw [Nat.zero_add] at h1
  by_cases e : t = k
  · subst e; rw [if_pos rfl]; exact cell_same h1
  · rw [if_neg e, cell_other (by intro g; injection g with _ g; exact e g.symm)]; exact h1
theorem PartsW.start (w : World) (s : Bool) (a : Option Addr) (n c : Nat) (s' : Bool) (b : Option Addr) (m d : Nat) (e : TypeId) (x : Nat) :
    PartsW w (((((w.alloc (.cells #[.bool s, .slice a n c] e)).alloc (.cells #[.bool s', .slice b m d] e)).alloc (.cells #[.bool false, .slice none 0 0] e)).alloc (.cells #[.bool false, .slice none 0 0] e)).alloc (.cells (madeCells #[.int .i64 0] x) 3)) a n c b m d (List.replicate x 0) := by
  obtain ⟨w1, h1⟩ : ∃ w1, w1 = w.alloc (.cells #[.bool s, .slice a n c] e) := ⟨_, rfl⟩
  obtain ⟨w2, h2⟩ : ∃ w2, w2 = w1.alloc (.cells #[.bool s', .slice b m d] e) := ⟨_, rfl⟩
  obtain ⟨w3, h3⟩ : ∃ w3, w3 = w2.alloc (.cells #[.bool false, .slice none 0 0] e) := ⟨_, rfl⟩
  obtain ⟨w4, h4⟩ : ∃ w4, w4 = w3.alloc (.cells #[.bool false, .slice none 0 0] e) := ⟨_, rfl⟩
  obtain ⟨w5, h5⟩ : ∃ w5, w5 = w4.alloc (.cells (madeCells #[.int .i64 0] x) 3) := ⟨_, rfl⟩
  rw [← h1, ← h2, ← h3, ← h4, ← h5]
  have z1 : w1.heap.size = w.heap.size + 1 := by rw [h1]; simp
  have z2 : w2.heap.size = w.heap.size + 1 + 1 := by rw [h2]; simp [z1]
  have z3 : w3.heap.size = w.heap.size + 1 + 1 + 1 := by rw [h3]; simp [z2]
  have z4 : w4.heap.size = w.heap.size + 1 + 1 + 1 + 1 := by rw [h4]; simp [z3]
  have z5 : w5.heap.size = w.heap.size + 1 + 1 + 1 + 1 + 1 := by rw [h5]; simp [z4]
  have b5 : Below w4.heap.size w4 w5 := by rw [h5]; exact Below.alloc (Below.refl _ _) (Nat.le_refl _) _
  have b4 : Below w3.heap.size w3 w5 := Below.trans (by rw [h4]; exact Below.alloc (Below.refl _ _) (Nat.le_refl _) _) (b5.mono (by omega))
  have b3 : Below w2.heap.size w2 w5 := Below.trans (by rw [h3]; exact Below.alloc (Below.refl _ _) (Nat.le_refl _) _) (b4.mono (by omega))
  have b2 : Below w1.heap.size w1 w5 := Below.trans (by rw [h2]; exact Below.alloc (Below.refl _ _) (Nat.le_refl _) _) (b3.mono (by omega))
  have b1 : Below w.heap.size w w5 := Below.trans (by rw [h1]; exact Below.alloc (Below.refl _ _) (Nat.le_refl _) _) (b2.mono (by omega))
  have c1 : ∀ i v, #[Value.bool s, Value.slice a n c][i]? = some v → w5.cell? ⟨w.heap.size, i, none⟩ = some v := fun i v hv => by
    rw [b2.cell (p := ⟨w.heap.size, i, none⟩) (by show w.heap.size < _; omega), h1]; exact new_at hv
  have c2 : ∀ i v, #[Value.bool s', Value.slice b m d][i]? = some v → w5.cell? ⟨w.heap.size + 1, i, none⟩ = some v := fun i v hv => by
    rw [b3.cell (p := ⟨w.heap.size + 1, i, none⟩) (by show w.heap.size + 1 < _; omega), h2, ← z1]; exact new_at hv
  have c3 : ∀ i v, #[Value.bool false, Value.slice none 0 0][i]? = some v → w5.cell? ⟨w.heap.size + 1 + 1, i, none⟩ = some v := fun i v hv => by
    rw [b4.cell (p := ⟨w.heap.size + 1 + 1, i, none⟩) (by show w.heap.size + 1 + 1 < _; omega), h3, ← z2]; exact new_at hv
  have c4 : ∀ i v, #[Value.bool false, Value.slice none 0 0][i]? = some v → w5.cell? ⟨w.heap.size + 1 + 1 + 1, i, none⟩ = some v := fun i v hv => by
    rw [b5.cell (p := ⟨w.heap.size + 1 + 1 + 1, i, none⟩) (by show w.heap.size + 1 + 1 + 1 < _; omega), h4, ← z3]; exact new_at hv
  have f3 : ∀ i, w5.frozen? ⟨w.heap.size + 1 + 1, i, none⟩ = false := fun i => by
    rw [b4.frozen (p := ⟨w.heap.size + 1 + 1, i, none⟩) (by show w.heap.size + 1 + 1 < _; omega), h3]; exact World.frozen?_alloc_at _ _ _ _ z2.symm
  have f4 : ∀ i, w5.frozen? ⟨w.heap.size + 1 + 1 + 1, i, none⟩ = false := fun i => by
    rw [b5.frozen (p := ⟨w.heap.size + 1 + 1 + 1, i, none⟩) (by show w.heap.size + 1 + 1 + 1 < _; omega), h4]; exact World.frozen?_alloc_at _ _ _ _ z3.symm
  refine ⟨c1 1 _ rfl, c2 1 _ rfl, c3 0 _ rfl, c3 1 _ rfl, f3 0, f3 1, c4 0 _ rfl, c4 1 _ rfl, f4 0, f4 1, fun t ht => ?_, fun t => ?_, b1, by omega⟩
  · rw [List.length_replicate] at ht
    rw [h5, ← z4, made_at w4 x _ _ t ht]
    rw [List.getD_eq_getElem?_getD, List.getElem?_replicate, if_pos ht]; rfl
  · rw [h5]; exact World.frozen?_alloc_at _ _ _ _ z4.symm

end Go.Proofs.Ytedjbmmegjgegaa

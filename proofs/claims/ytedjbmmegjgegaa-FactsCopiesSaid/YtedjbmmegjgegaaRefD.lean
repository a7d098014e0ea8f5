/-
  chattelref01's Neg and Add.
-/
import Derived.Test.YtedjbmmegjgegaaRefC
import Derived.StillTailTactics
import Derived.Deep.RegionWith
import Derived.Deep.RegionHeld3
namespace Go.Proofs.Ytedjbmmegjgegaa
open Go.RowKit
set_option linter.unusedVariables false

theorem bitsN_len_pos {z : Int} : 0 < (bitsN z.natAbs).length ↔ z ≠ 0 := by
  constructor
  · intro h e; subst e; rw [show (0 : Int).natAbs = 0 from rfl, bitsN_zero] at h; simp at h
  · intro h
    rcases Nat.eq_zero_or_pos (bitsN z.natAbs).length with g | g
    · have := bitsN_nil (List.length_eq_zero_iff.1 g); omega
    · exact g

/-- A number, by its sign and its slice. -/
def BigA (w : World) (z : Int) (a : Option Addr) (c : Nat) : Prop := SLF w a (bitsN z.natAbs) ∧ (bitsN z.natAbs).length ≤ c ∧ c ≤ 9223372036854775807
theorem BigV.open {w : World} {v : Value} {z : Int} (h : BigV w v z) : ∃ a c, v = .agg #[.bool (decide (z < 0)), .slice a (bitsN z.natAbs).length c] ∧ BigA w z a c := by
  obtain ⟨s, rfl, a, c, rfl, h1, h2, h3⟩ := h
  exact ⟨a, c, rfl, h3, h1, h2⟩
theorem BigA.shut {w : World} {z : Int} {a : Option Addr} {c : Nat} (h : BigA w z a c) : BigV w (.agg #[.bool (decide (z < 0)), .slice a (bitsN z.natAbs).length c]) z := ⟨_, rfl, a, c, rfl, h.2.1, h.2.2, h.1⟩
theorem BigA.keep {w w' : World} {z : Int} {a : Option Addr} {c : Nat} (h : BigA w z a c) (hb : Below w.heap.size w w') : BigA w' z a c := ⟨h.1.keep hb, h.2⟩

/-- A store into a cell that holds no number leaves a slice of numbers as it was. -/
theorem SL.setCell {w : World} {v : Value} {l : List Int} (h : SL w v l) {p : Addr} {u : Value} (hu : w.cell? p = some u) (hn : ∀ n, u ≠ .int .i64 n) (x : Value) : SL (w.setCell p x) v l := by
  obtain ⟨a, c, rfl, h1, h2, h3⟩ := h
  refine ⟨a, c, rfl, h1, h2, ?_⟩
  rcases h3 with h3 | ⟨b, o, rfl, h4, h5⟩
  · exact Or.inl h3
  · refine Or.inr ⟨b, o, rfl, by simpa using h4, fun t ht => ?_⟩
    rw [cell_other (fun e => ?_)]
    · exact h5 t ht
    · have := h5 t ht
      rw [← e, hu] at this
      simp at this
      exact hn _ this

/-- The result's cell, filled. -/
theorem big_stored {w : World} {r : Nat} {b : Bool} {v : Value} {z : Int} (hb : b = decide (z < 0)) (hs : SL w v (bitsN z.natAbs)) {u0 : Bool} {a1 : Option Addr} {n1 c1 : Nat} (c0 : w.cell? ⟨r, 0, none⟩ = some (.bool u0)) (c1' : w.cell? ⟨r, 1, none⟩ = some (.slice a1 n1 c1)) :
    BigV ((w.setCell ⟨r, 0, none⟩ (.bool b)).setCell ⟨r, 1, none⟩ v) (.agg #[.bool b, v]) z := by
  subst hb
  refine ⟨v, rfl, (hs.setCell c0 (by intro n; simp) _).setCell (u := .slice a1 n1 c1) (by rw [cell_other (by intro e; cases e)]; exact c1') (by intro n; simp) _⟩

theorem new_at {w : World} {c : Array Value} {e : TypeId} {v : Value} {i : Nat} (h : c[i]? = some v) : (w.alloc (.cells c e)).cell? ⟨w.heap.size, i, none⟩ = some v := by
  rw [World.cell?_alloc_at _ _ _ _ rfl]; exact h

/-- What three new blocks hold, behind a call that leaves them alone. -/
theorem after3 {w w' : World} {s0 s1 t0 t1 u0 u1 : Value} {e1 e2 e3 : TypeId} (hb : Below (((w.alloc (.cells #[s0, s1] e1)).alloc (.cells #[t0, t1] e2)).alloc (.cells #[u0, u1] e3)).drew.heap.size (((w.alloc (.cells #[s0, s1] e1)).alloc (.cells #[t0, t1] e2)).alloc (.cells #[u0, u1] e3)).drew w') :
    w'.cell? ⟨w.heap.size, 0, none⟩ = some s0 ∧ w'.cell? ⟨w.heap.size, 1, none⟩ = some s1 ∧ w'.cell? ⟨w.heap.size + 1, 0, none⟩ = some t0 ∧ w'.cell? ⟨w.heap.size + 1, 1, none⟩ = some t1 ∧
    w'.cell? ⟨w.heap.size + 1 + 1, 0, none⟩ = some u0 ∧ w'.cell? ⟨w.heap.size + 1 + 1, 1, none⟩ = some u1 ∧ w'.frozen? ⟨w.heap.size + 1 + 1, 0, none⟩ = false ∧ w'.frozen? ⟨w.heap.size + 1 + 1, 1, none⟩ = false ∧ w.heap.size + 3 ≤ w'.heap.size := by
  have hs := hb.size
  have z1 : (w.alloc (.cells #[s0, s1] e1)).heap.size = w.heap.size + 1 := by simp
  have z2 : ((w.alloc (.cells #[s0, s1] e1)).alloc (.cells #[t0, t1] e2)).heap.size = w.heap.size + 1 + 1 := by simp
  have z3 : (((w.alloc (.cells #[s0, s1] e1)).alloc (.cells #[t0, t1] e2)).alloc (.cells #[u0, u1] e3)).drew.heap.size = w.heap.size + 3 := by show (((w.alloc _).alloc _).alloc _).heap.size = _; simp
  have old : ∀ (b i : Nat), b < w.heap.size + 3 → w'.cell? ⟨b, i, none⟩ = (((w.alloc (.cells #[s0, s1] e1)).alloc (.cells #[t0, t1] e2)).alloc (.cells #[u0, u1] e3)).cell? ⟨b, i, none⟩ := fun b i h => hb.cell (p := ⟨b, i, none⟩) (by rw [z3]; exact h)
  have oldf : ∀ (b i : Nat), b < w.heap.size + 3 → w'.frozen? ⟨b, i, none⟩ = (((w.alloc (.cells #[s0, s1] e1)).alloc (.cells #[t0, t1] e2)).alloc (.cells #[u0, u1] e3)).frozen? ⟨b, i, none⟩ := fun b i h => hb.frozen (p := ⟨b, i, none⟩) (by rw [z3]; exact h)
  have nu : ∀ i v, #[u0, u1][i]? = some v → w'.cell? ⟨w.heap.size + 1 + 1, i, none⟩ = some v := fun i v h => by
    rw [old _ _ (by omega), ← z2]; exact new_at h
  have nt : ∀ i v, #[t0, t1][i]? = some v → w'.cell? ⟨w.heap.size + 1, i, none⟩ = some v := fun i v h => by
    rw [old _ _ (by omega), World.cell?_alloc_past _ _ _ (by omega), ← z1]; exact new_at h
  have ns : ∀ i v, #[s0, s1][i]? = some v → w'.cell? ⟨w.heap.size, i, none⟩ = some v := fun i v h => by
    rw [old _ _ (by omega), World.cell?_alloc_past _ _ _ (by omega), World.cell?_alloc_past _ _ _ (by omega)]; exact new_at h
  refine ⟨ns 0 _ rfl, ns 1 _ rfl, nt 0 _ rfl, nt 1 _ rfl, nu 0 _ rfl, nu 1 _ rfl, ?_, ?_, by omega⟩
  · rw [oldf _ _ (by omega)]; exact World.frozen?_alloc_at _ _ _ _ z2.symm
  · rw [oldf _ _ (by omega)]; exact World.frozen?_alloc_at _ _ _ _ z2.symm

theorem big_end3 {w w3 w' : World} {v : Value} {z : Int} {b : Bool} (h3 : Below w.heap.size w w3) (hs3 : w.heap.size + 3 ≤ w3.heap.size) (hb : Below w3.heap.size w3 w') (hs : SL w' v (bitsN z.natAbs)) (hz : b = decide (z < 0)) {u0 : Bool} {a1 : Option Addr} {n1 c1 : Nat}
    (k4 : w'.cell? ⟨w.heap.size + 1 + 1, 0, none⟩ = some (.bool u0)) (k5 : w'.cell? ⟨w.heap.size + 1 + 1, 1, none⟩ = some (.slice a1 n1 c1)) :
    (∃ u, Ending.returned (.agg #[.bool b, v]) = .returned u ∧ BigV ((w'.setCell ⟨w.heap.size + 1 + 1, 0, none⟩ (.bool b)).setCell ⟨w.heap.size + 1 + 1, 1, none⟩ v) u z) ∧ Below w.heap.size w ((w'.setCell ⟨w.heap.size + 1 + 1, 0, none⟩ (.bool b)).setCell ⟨w.heap.size + 1 + 1, 1, none⟩ v) := by
  refine ⟨⟨_, rfl, big_stored hz hs k4 k5⟩, ?_⟩
  refine Below.setCell (Below.setCell (h3.trans (hb.mono (by omega))) ?_ _) ?_ _
  · show w.heap.size ≤ w.heap.size + 1 + 1; omega
  · show w.heap.size ≤ w.heap.size + 1 + 1; omega

end Go.Proofs.Ytedjbmmegjgegaa

/-
  chattelref01's Split: the two rows that it makes.
-/
import Derived.Test.YtbjjogbnndmmmaaAppLoc
import Derived.Test.YtbjjogbnndmmmaaRSplM
import Derived.Test.YtbjjogbnndmmmaaRefT
namespace Go.Proofs.Ytbjjogbnndmmmaa
open Go.RowKit
set_option linter.unusedVariables false

theorem rows_apart {w : World} {b b' : Nat} {e e' : TypeId} {s s' : Nat} {v v' : Value} {n n' : Nat} {xs xs' : List Value} (h : w.ownsRow b e s v n xs) (h' : w.ownsRow b' e' s' v' n' xs') (he : e ≠ e') : v.ownBlock = none ∨ v.ownBlock ≠ v'.ownBlock := by
  rcases h.2 with ⟨rfl, _⟩ | ⟨g, cap, cur, rfl, _, hg, _⟩
  · exact Or.inl rfl
  · refine Or.inr fun e1 => ?_
    rcases h'.2 with ⟨rfl, _⟩ | ⟨g', cap', cur', rfl, _, hg', _⟩
    · cases e1
    · obtain rfl : g = g' := by simpa [Value.ownBlock] using e1
      rw [hg] at hg'
      injection hg' with hg'
      injection hg' with _ h2 _
      exact he h2
theorem below_grown {w2 wx w1 : World} {v : Value} {e : TypeId} {s n : Nat} {xs : List Value} (hb : Below w2.heap.size w2 wx) (ho : wx.ownsRow w2.heap.size e s v n xs) (hg : wx.grownBy w1 v.ownBlock) : Below w2.heap.size w2 w1 :=
  ⟨hg.os.trans hb.os, hg.tape.trans hb.tape, hg.output.trans hb.output, Nat.le_trans hb.size hg.size, fun k hk => by
    rw [hg.block k (Nat.lt_of_lt_of_le hk hb.size) (fun e => by have := (ho.lt k e.symm).1; omega)]; exact hb.block k hk⟩

/-- The two rows: what each one has, and what is cut off of each. -/
structure RI (w2 wx : World) (vo vr : Value) (ko kr : Nat) (P R : Nat → Int) : Prop where
  bel : Below w2.heap.size w2 wx
  out : wx.ownsRow w2.heap.size 3 1 vo ko ((List.range ko).map fun t => Value.int .i64 (P t))
  row : ∃ xs, wx.ownsRow w2.heap.size 30 2 vr kr xs ∧ ∀ t, t < kr → ∃ s a n c, xs[2 * t]? = some (.bool s) ∧ xs[2 * t + 1]? = some (.slice a n c) ∧
    BigFar wx (.agg #[.bool s, .slice a n c]) (R t) (fun b => vo.ownBlock = some b ∨ vr.ownBlock = some b)
theorem RI.start (w2 : World) (P R : Nat → Int) : RI w2 w2 (.slice none 0 0) (.slice none 0 0) 0 0 P R :=
  ⟨Below.refl _ _, World.ownsRow_nil _ _ _ _, [], World.ownsRow_nil _ _ _ _, fun t ht => by omega⟩
theorem ownsRow_keep {w w1 : World} {b : Nat} {e : TypeId} {s : Nat} {v : Value} {n : Nat} {xs : List Value} (h : w.ownsRow b e s v n xs) (hb : Below w.heap.size w w1) : w1.ownsRow b e s v n xs :=
  h.kept (row := none) ⟨hb.os, hb.tape, hb.output, hb.size, fun k hk _ => hb.block k hk⟩ (by
    cases h : v.ownBlock with
    | none => exact Or.inl rfl
    | some k => exact Or.inr (by simp))
theorem RI.keep {w2 wx w1 : World} {vo vr : Value} {ko kr : Nat} {P R : Nat → Int} (h : RI w2 wx vo vr ko kr P R) (hb : Below wx.heap.size wx w1) : RI w2 w1 vo vr ko kr P R := by
  obtain ⟨h1, h2, xs, h3, h4⟩ := h
  exact ⟨h1.trans (hb.mono h1.size), ownsRow_keep h2 hb, xs, ownsRow_keep h3 hb, fun t ht => by
    obtain ⟨s, a, n, c, e1, e2, h5⟩ := h4 t ht
    exact ⟨s, a, n, c, e1, e2, h5.keep hb⟩⟩
theorem RI.far {w2 wx : World} {vo vr : Value} {ko kr : Nat} {P R : Nat → Int} (h : RI w2 wx vo vr ko kr P R) : ∀ b, vo.ownBlock = some b ∨ vr.ownBlock = some b → b < wx.heap.size := by
  obtain ⟨_, h2, xs, h3, _⟩ := h
  rintro b (e | e)
  · exact (h2.lt b e).2
  · exact (h3.lt b e).2
/-- One part more. -/
theorem RI.pushOut {w2 wx w1 : World} {vo vr vo' : Value} {k kr : Nat} {P R : Nat → Int} {x : Int} (h : RI w2 wx vo vr k kr P R)
    (ho : w1.ownsRow w2.heap.size 3 1 vo' (k + 1) (((List.range k).map fun t => Value.int .i64 (P t)) ++ [.int .i64 x])) (hg : wx.grownBy w1 vo.ownBlock) (hl : vo'.ownBlock = vo.ownBlock ∨ vo'.ownBlock = some wx.heap.size) (hx : x = P k) :
    RI w2 w1 vo' vr (k + 1) kr P R ∧ ∀ v z, BigFar wx v z (fun b => vo.ownBlock = some b ∨ vr.ownBlock = some b) → BigFar w1 v z (fun b => vo'.ownBlock = some b ∨ vr.ownBlock = some b) := by
  obtain ⟨h1, h2, xs, h3, h4⟩ := h
  have key : ∀ v z, BigFar wx v z (fun b => vo.ownBlock = some b ∨ vr.ownBlock = some b) → BigFar w1 v z (fun b => vo'.ownBlock = some b ∨ vr.ownBlock = some b) := fun v z hv =>
    hv.grown hg (fun b e _ => Or.inl e) (fun b hb => by
      rintro (e | e)
      · rcases hl with g | g
        · rw [g] at e; exact Or.inl e
        · rw [g] at e; injection e with e; omega
      · exact Or.inr e)
  refine ⟨⟨below_grown h1 h2 hg, ?_, xs, h3.kept hg (rows_apart h3 h2 (by decide)), fun t ht => ?_⟩, key⟩
  · rw [List.range_succ, List.map_append]
    subst hx; exact ho
  · obtain ⟨s, a, n, c, e1, e2, h5⟩ := h4 t ht
    exact ⟨s, a, n, c, e1, e2, key _ _ h5⟩
/-- What is cut off of one more. -/
theorem RI.pushRow {w2 wx w1 : World} {vo vr vr' : Value} {ko k : Nat} {P R : Nat → Int} {s : Bool} {a : Option Addr} {n c : Nat} (h : RI w2 wx vo vr ko k P R) (xs : List Value)
    (hxs : ∀ t, t < k → ∃ s a n c, xs[2 * t]? = some (.bool s) ∧ xs[2 * t + 1]? = some (.slice a n c) ∧ BigFar wx (.agg #[.bool s, .slice a n c]) (R t) (fun b => vo.ownBlock = some b ∨ vr.ownBlock = some b)) (h3 : wx.ownsRow w2.heap.size 30 2 vr k xs)
    (ho : w1.ownsRow w2.heap.size 30 2 vr' (k + 1) (xs ++ [.bool s, .slice a n c])) (hg : wx.grownBy w1 vr.ownBlock) (hl : vr'.ownBlock = vr.ownBlock ∨ vr'.ownBlock = some wx.heap.size)
    (hv : BigFar wx (.agg #[.bool s, .slice a n c]) (R k) (fun b => vo.ownBlock = some b ∨ vr.ownBlock = some b)) : RI w2 w1 vo vr' ko (k + 1) P R := by
  obtain ⟨h1, h2, _, _, _⟩ := h
  have key : ∀ v z, BigFar wx v z (fun b => vo.ownBlock = some b ∨ vr.ownBlock = some b) → BigFar w1 v z (fun b => vo.ownBlock = some b ∨ vr'.ownBlock = some b) := fun v z hv =>
    hv.grown hg (fun b e _ => Or.inr e) (fun b hb => by
      rintro (e | e)
      · exact Or.inl e
      · rcases hl with g | g
        · rw [g] at e; exact Or.inr e
        · rw [g] at e; injection e with e; omega)
  have hlen : xs.length = 2 * k := by have := h3.1; omega
  refine ⟨below_grown h1 h3 hg, h2.kept hg (rows_apart h2 h3 (by decide)), _, ho, fun t ht => ?_⟩
  by_cases e : t = k
  · subst e
    refine ⟨s, a, n, c, ?_, ?_, key _ _ hv⟩
    · rw [List.getElem?_append_right (by omega)]; simp [hlen]
    · rw [List.getElem?_append_right (by omega), hlen, show 2 * t + 1 - 2 * t = 1 by omega]; rfl
  · obtain ⟨s', a', n', c', e1, e2, h5⟩ := hxs t (by omega)
    refine ⟨s', a', n', c', ?_, ?_, key _ _ h5⟩
    · rw [List.getElem?_append_left (by omega)]; exact e1
    · rw [List.getElem?_append_left (by omega)]; exact e2

/-- The quotient and what is left, in new blocks. -/
def RCut (wr wx : World) (t u : Value) (q r : Int) : Prop := ∃ (Q Q' : Nat) (s s' : Bool) (a a' : Option Addr) (n n' c c' : Nat), t = .pointer (some ⟨Q, 0, none⟩) ∧ u = .pointer (some ⟨Q', 0, none⟩) ∧
  wx.cell? ⟨Q, 0, none⟩ = some (.bool s) ∧ wx.cell? ⟨Q, 1, none⟩ = some (.slice a n c) ∧ wx.cell? ⟨Q', 0, none⟩ = some (.bool s') ∧ wx.cell? ⟨Q', 1, none⟩ = some (.slice a' n' c') ∧
  BigV wx (.agg #[.bool s, .slice a n c]) q ∧ BigV wx (.agg #[.bool s', .slice a' n' c']) r ∧ LocR wr.heap.size a' ∧ Below wr.heap.size wr wx ∧ wr.heap.size ≤ Q' ∧ Q' < wx.heap.size

theorem step_far {wl cur wn : World} (L : Below wl.heap.size wl wl) (h : Below wl.heap.size wl cur) (hb : Below cur.heap.size cur wn) : Below wl.heap.size wl wn := h.trans (hb.mono h.size)
theorem below_alloc' {w w1 : World} {o : Obj} (h : Below w.heap.size w w1) : Below w.heap.size w (w1.alloc o) := Below.alloc h h.size o
/-- A block of two cells that hold no number yet. -/
theorem QB.of_alloc2 {w w1 : World} {e e' : TypeId} (h : Below ((w.alloc (.cells #[.bool false, .slice none 0 0] e)).alloc (.cells #[.bool false, .slice none 0 0] e')).heap.size ((w.alloc (.cells #[.bool false, .slice none 0 0] e)).alloc (.cells #[.bool false, .slice none 0 0] e')) w1) : QB w1 w.heap.size ∧ QB w1 (w.heap.size + 1) := by
  have h1 := QB.of_alloc h
  have h2 : QB w1 w.heap.size := QB.of_alloc (step_far (Below.refl _ _) (below_alloc' (Below.refl _ _)) h)
  refine ⟨h2, ?_⟩
  have e : (w.alloc (.cells #[.bool false, .slice none 0 0] e)).heap.size = w.heap.size + 1 := by simp
  rw [e] at h1; exact h1
theorem alloc_far {w : World} {o : Obj} {b i : Nat} {y : Value} (h : w.cell? ⟨b, i, none⟩ = some y) : (w.alloc o).cell? ⟨b, i, none⟩ = some y := by
  rw [World.cell?_alloc_past _ _ _ ?_]; exact h
  rcases Nat.lt_or_ge b w.heap.size with g | g
  · exact g
  · unfold World.cell? at h; rw [Array.getElem?_eq_none g] at h; cases h
theorem drew_far {w : World} {a : Addr} {y : Value} (h : w.cell? a = some y) : w.drew.cell? a = some y := h
theorem set_far {w : World} {Q B i j : Nat} {v y : Value} (hQ : B < Q) (h : w.cell? ⟨B, j, none⟩ = some y) : (w.setCell ⟨Q, i, none⟩ v).cell? ⟨B, j, none⟩ = some y := by
  rw [cell_other (by intro e; injection e with e1 e2; omega)]; exact h
theorem nat_parts {a b : Int} (ha : 0 ≤ a) (hb : 0 < b) : ((a.natAbs / b.natAbs : Nat) : Int) = a / b ∧ ((a.natAbs % b.natAbs : Nat) : Int) = a % b := by
  obtain ⟨x, rfl⟩ := Int.eq_ofNat_of_zero_le ha
  obtain ⟨y, rfl⟩ := Int.eq_ofNat_of_zero_le (Int.le_of_lt hb)
  simp

/-- Blocks that are new since w0 were written: numbers of w1 stand. -/
structure SG (w0 w1 W : World) : Prop where
  le : w1.heap.size ≤ W.heap.size
  ints : ∀ b o m, w1.cell? ⟨b, o, none⟩ = some (.int .i64 m) → W.cell? ⟨b, o, none⟩ = some (.int .i64 m)
  bel : Below w0.heap.size w0 W
theorem SG.refl {w0 w1 : World} (G : Below w0.heap.size w0 w1) : SG w0 w1 w1 := ⟨Nat.le_refl _, fun _ _ _ h => h, G⟩
theorem SG.alloc {w0 w1 W : World} {o : Obj} (h : SG w0 w1 W) : SG w0 w1 (W.alloc o) := ⟨Nat.le_trans h.le (by simp), fun b o m g => alloc_far (h.ints b o m g), below_alloc' h.bel⟩
theorem SG.setQ {w0 w1 W : World} {Q i : Nat} {x : Value} (h : SG w0 w1 W) (q : QB w1 Q) (hi : i = 0 ∨ i = 1) (hQ : w0.heap.size ≤ Q) : SG w0 w1 (W.setCell ⟨Q, i, none⟩ x) := by
  refine ⟨by simpa using h.le, fun b o m g => ?_, Below.setCell h.bel hQ _⟩
  have hne : (⟨Q, i, none⟩ : Addr) ≠ ⟨b, o, none⟩ := fun e => by
    injection e with e1 e2
    subst e1; subst e2
    rcases hi with rfl | rfl
    · rw [q.c0] at g; cases g
    · rw [q.c1] at g; cases g
  rw [cell_other hne]; exact h.ints b o m g
theorem SG.setN {w0 w1 W : World} {Q i : Nat} {x : Value} (h : SG w0 w1 W) (hi : w1.heap.size ≤ Q) (hQ : w0.heap.size ≤ Q) : SG w0 w1 (W.setCell ⟨Q, i, none⟩ x) := by
  refine ⟨by simpa using h.le, fun b o m g => ?_, Below.setCell h.bel hQ _⟩
  have hb : b < w1.heap.size := by
    rcases Nat.lt_or_ge b w1.heap.size with k | k
    · exact k
    · unfold World.cell? at g; rw [Array.getElem?_eq_none k] at g; cases g
  rw [cell_other (by intro e; injection e with e1 e2; omega)]; exact h.ints b o m g
theorem SG.big {w0 w1 W : World} {v : Value} {z : Int} (h : SG w0 w1 W) (hv : BigV w1 v z) : BigV W v z := by
  obtain ⟨s, e, a, c, e2, h1, h2, h3⟩ := hv
  refine ⟨s, e, a, c, e2, h1, h2, ?_⟩
  rcases h3 with h3 | ⟨b, o, rfl, h4, h5⟩
  · exact Or.inl h3
  · exact Or.inr ⟨b, o, rfl, Nat.lt_of_lt_of_le h4 h.le, fun t ht => h.ints _ _ _ (h5 t ht)⟩
theorem set_same {w : World} {b i : Nat} {u v : Value} (h : w.cell? ⟨b, i, none⟩ = some u) : (w.setCell ⟨b, i, none⟩ v).cell? ⟨b, i, none⟩ = some v := cell_same h
theorem lt_cell {w : World} {b i : Nat} {v : Value} (h : w.cell? ⟨b, i, none⟩ = some v) : b < w.heap.size := by
  rcases Nat.lt_or_ge b w.heap.size with k | k
  · exact k
  · unfold World.cell? at h; rw [Array.getElem?_eq_none k] at h; cases h
/-- A cell that is there. -/
def HasC (w : World) (b i : Nat) : Prop := ∃ u, w.cell? ⟨b, i, none⟩ = some u
theorem HasC.of {w : World} {b i : Nat} {u : Value} (h : w.cell? ⟨b, i, none⟩ = some u) : HasC w b i := ⟨u, h⟩
theorem HasC.set {w : World} {b i Q j : Nat} {v : Value} (h : HasC w b i) : HasC (w.setCell ⟨Q, j, none⟩ v) b i := by
  obtain ⟨u, h⟩ := h
  by_cases e : (⟨Q, j, none⟩ : Addr) = ⟨b, i, none⟩
  · rw [e]; exact ⟨v, cell_same h⟩
  · exact ⟨u, by rw [cell_other e]; exact h⟩
theorem HasC.alloc {w : World} {b i : Nat} {o : Obj} (h : HasC w b i) : HasC (w.alloc o) b i := by
  obtain ⟨u, h⟩ := h
  exact ⟨u, by
    rw [World.cell?_alloc_past _ _ _ (lt_cell h)]; exact h⟩
theorem set_same' {w : World} {b i : Nat} {v : Value} (h : HasC w b i) : (w.setCell ⟨b, i, none⟩ v).cell? ⟨b, i, none⟩ = some v := by
  obtain ⟨u, h⟩ := h
  exact cell_same h
theorem set_off {w : World} {b i j : Nat} {y v : Value} (hi : i ≠ j) (h : w.cell? ⟨b, j, none⟩ = some y) : (w.setCell ⟨b, i, none⟩ v).cell? ⟨b, j, none⟩ = some y := by
  rw [cell_other (by intro e; injection e with e1 e2; exact hi e2)]; exact h
theorem set_ne {w : World} {b b' i j : Nat} {y v : Value} (hb : b ≠ b') (h : w.cell? ⟨b', j, none⟩ = some y) : (w.setCell ⟨b, i, none⟩ v).cell? ⟨b', j, none⟩ = some y := by
  rw [cell_other (by intro e; injection e with e1 e2; exact hb e1)]; exact h
theorem new_at' {w : World} {c : Array Value} {e : TypeId} {v : Value} {b i : Nat} (hb : b = w.heap.size) (h : c[i]? = some v) : (w.alloc (.cells c e)).cell? ⟨b, i, none⟩ = some v := by subst hb; exact new_at h
theorem cell_grown {w w1 : World} {row : Option Nat} {o : Obj} {b i : Nat} {y : Value} (hg : (w.alloc o).grownBy w1 row) (hn : some b ≠ row) (h : w.cell? ⟨b, i, none⟩ = some y) : w1.cell? ⟨b, i, none⟩ = some y :=
  (World.cell?_of_block (a := ⟨b, i, none⟩) (hg.block b (by have := lt_cell h; simp; omega) hn)).trans (alloc_far h)
theorem two_cell (w : World) (x y : Value) (e : TypeId) : ∀ j u, [x, y][j]? = some u → (w.alloc (.cells #[x, y] e)).cell? ((⟨w.heap.size, 0, none⟩ : Addr).add j) = some u := by
  intro j u hj
  match j, hj with
  | 0, hj => simp at hj; subst hj; simp [Addr.add]
  | 1, hj => simp at hj; subst hj; simp [Addr.add]
theorem two_one (s : Bool) (a : Option Addr) (n c : Nat) : ∀ u ∈ [Value.bool s, Value.slice a n c], u.oneCell' = true := by
  intro u hu
  simp at hu
  rcases hu with rfl | rfl <;> rfl
theorem RI.rowAt {w2 wx : World} {vo vr : Value} {ko k : Nat} {P R : Nat → Int} (h : RI w2 wx vo vr ko k P R) (o : Obj) : ∃ xs, wx.ownsRow w2.heap.size 30 2 vr k xs ∧
    Hid (∀ t, t < k → ∃ s a n c, xs[2 * t]? = some (.bool s) ∧ xs[2 * t + 1]? = some (.slice a n c) ∧ BigFar (wx.alloc o) (.agg #[.bool s, .slice a n c]) (R t) (fun b => vo.ownBlock = some b ∨ vr.ownBlock = some b)) := by
  obtain ⟨_, _, xs, h1, h2⟩ := h
  exact ⟨xs, h1, Lib.hid fun t ht => by
    obtain ⟨s, a, n, c, e1, e2, h3⟩ := h2 t ht
    exact ⟨s, a, n, c, e1, e2, h3.keep (below_alloc' (Below.refl _ _))⟩⟩
theorem loc_far {wr wl cur wn : World} {a : Option Addr} (G : Below wr.heap.size wr wl) (L : Below wl.heap.size wl wl) (h : Below wl.heap.size wl cur) (hb : Below cur.heap.size cur wn) (hl : LocR cur.heap.size a) : LocR wr.heap.size a :=
  fun ad e => Nat.le_trans (Nat.le_trans G.size h.size) (hl ad e)
structure QW (wr w : World) (Q : Nat) : Prop where
  qb : QB w Q
  ge : wr.heap.size ≤ Q
theorem QW.keep {wr wx w1 : World} {Q : Nat} (h : QW wr wx Q) (hb : Below wx.heap.size wx w1) : QW wr w1 Q := ⟨h.qb.keep hb, h.ge⟩
theorem QW.of_alloc {wr w w1 : World} {e : TypeId} (G : Below wr.heap.size wr w) (h : Below (w.alloc (.cells #[.bool false, .slice none 0 0] e)).heap.size (w.alloc (.cells #[.bool false, .slice none 0 0] e)) w1) : QW wr w1 w.heap.size := ⟨QB.of_alloc h, G.size⟩
theorem QW.of_alloc2 {wr w w1 : World} {e e' : TypeId} (G : Below wr.heap.size wr w) (h : Below ((w.alloc (.cells #[.bool false, .slice none 0 0] e)).alloc (.cells #[.bool false, .slice none 0 0] e')).heap.size ((w.alloc (.cells #[.bool false, .slice none 0 0] e)).alloc (.cells #[.bool false, .slice none 0 0] e')) w1) : QW wr w1 w.heap.size ∧ QW wr w1 (w.heap.size + 1) :=
  ⟨⟨(QB.of_alloc2 h).1, G.size⟩, ⟨(QB.of_alloc2 h).2, Nat.le_succ_of_le G.size⟩⟩
theorem sz_alloc (w : World) (o : Obj) : (w.alloc o).heap.size = w.heap.size + 1 := by simp
theorem sz_set (w : World) (a : Addr) (v : Value) : (w.setCell a v).heap.size = w.heap.size := by simp
theorem rcut_mk {wr w1 W : World} {Q Q' : Nat} {s s' : Bool} {a a' : Option Addr} {n n' c c' : Nat} {q r : Int} (g : SG wr w1 W) (hq : BigV w1 (.agg #[.bool s, .slice a n c]) q) (hr : BigV w1 (.agg #[.bool s', .slice a' n' c']) r) (hl : LocR wr.heap.size a')
    (h0 : W.cell? ⟨Q, 0, none⟩ = some (.bool s)) (h1 : W.cell? ⟨Q, 1, none⟩ = some (.slice a n c)) (h2 : W.cell? ⟨Q', 0, none⟩ = some (.bool s')) (h3 : W.cell? ⟨Q', 1, none⟩ = some (.slice a' n' c')) (hQ : wr.heap.size ≤ Q') :
    RCut wr W (.pointer (some ⟨Q, 0, none⟩)) (.pointer (some ⟨Q', 0, none⟩)) q r :=
  ⟨Q, Q', s, s', a, a', n, n', c, c', rfl, rfl, h0, h1, h2, h3, g.big hq, g.big hr, hl, g.bel, hQ, lt_cell h2⟩

/-- Both rows, cell by cell. -/
structure R2 (w2 wx : World) (g h n : Nat) (P R : Nat → Int) : Prop where
  bel : Below w2.heap.size w2 wx
  lo : w2.heap.size ≤ g ∧ w2.heap.size ≤ h ∧ g ≠ h ∧ g < wx.heap.size ∧ h < wx.heap.size
  oc : ∀ t, t < n → wx.cell? ⟨g, t, none⟩ = some (.int .i64 (P t))
  frz : ∀ t, wx.frozen? ⟨g, t, none⟩ = false ∧ wx.frozen? ⟨h, t, none⟩ = false
  rc : ∀ t, t < n → ∃ s a m c, wx.cell? ⟨h, t * 2, none⟩ = some (.bool s) ∧ wx.cell? ⟨h, t * 2 + 1, none⟩ = some (.slice a m c) ∧ BigFar wx (.agg #[.bool s, .slice a m c]) (R t) (fun b => b = g ∨ b = h)
theorem RI.cells {w2 wx : World} {vo vr : Value} {n : Nat} {P R : Nat → Int} (h : RI w2 wx vo vr n n P R) (hn : 0 < n) : ∃ g k c c', vo = .slice (some ⟨g, 0, none⟩) n c ∧ vr = .slice (some ⟨k, 0, none⟩) n c' ∧ R2 w2 wx g k n P R := by
  obtain ⟨h1, h2, xs, h3, h4⟩ := h
  rcases id h2.2 with ⟨_, e⟩ | ⟨g, c, cur, rfl, hg, _⟩
  · omega
  · rcases id h3.2 with ⟨_, e⟩ | ⟨k, c', cur', rfl, hk, _⟩
    · omega
    · have a1 := h2.lt g rfl
      have a2 := h3.lt k rfl
      have hne : g ≠ k := by
        rcases rows_apart h2 h3 (by decide) with e | e
        · cases e
        · exact fun e2 => e (by simp [Value.ownBlock, e2])
      refine ⟨g, k, c, c', rfl, rfl, h1, ⟨hg, hk, hne, a1.2, a2.2⟩, fun t ht => ?_, fun t => ⟨h2.frozenAt t, h3.frozenAt t⟩, fun t ht => ?_⟩
      · rw [h2.cellAt t (by omega)]; simp [ht]
      · obtain ⟨s, a, m, d, e1, e2, h5⟩ := h4 t ht
        refine ⟨s, a, m, d, ?_, ?_, h5.turn (Nat.le_refl _) (fun _ _ _ _ => rfl) (fun b _ hb => ?_)⟩
        · rw [h3.cellAt (t * 2) (by omega), Nat.mul_comm]; exact e1
        · rw [h3.cellAt (t * 2 + 1) (by omega), Nat.mul_comm]; exact e2
        · rintro (e | e)
          · exact hb (Or.inl (by rw [e]; rfl))
          · exact hb (Or.inr (by rw [e]; rfl))
theorem R2.keep {w2 wx w1 : World} {g h n : Nat} {P R : Nat → Int} (q : R2 w2 wx g h n P R) (hb : Below wx.heap.size wx w1) : R2 w2 w1 g h n P R := by
  obtain ⟨h1, ⟨l1, l2, l3, l4, l5⟩, h2, h3, h4⟩ := q
  have hs := hb.size
  refine ⟨h1.trans (hb.mono h1.size), ⟨l1, l2, l3, by omega, by omega⟩, fun t ht => (hb.cell (p := ⟨g, t, none⟩) l4).trans (h2 t ht), fun t => ⟨(hb.frozen (p := ⟨g, t, none⟩) l4).trans (h3 t).1, (hb.frozen (p := ⟨h, t, none⟩) l5).trans (h3 t).2⟩, fun t ht => ?_⟩
  obtain ⟨s, a, m, c, e1, e2, e3⟩ := h4 t ht
  exact ⟨s, a, m, c, (hb.cell (p := ⟨h, t * 2, none⟩) l5).trans e1, (hb.cell (p := ⟨h, t * 2 + 1, none⟩) l5).trans e2, e3.keep hb⟩
theorem R2.inc {w2 wx : World} {g h n b : Nat} {P P' R : Nat → Int} (q : R2 w2 wx g h n P R) (hb : b < n) {x : Int} (hx : x = P' b) (hP : ∀ t, t < n → t ≠ b → P' t = P t) : R2 w2 (wx.setCell ⟨g, b, none⟩ (.int .i64 x)) g h n P' R := by
  obtain ⟨h1, ⟨l1, l2, l3, l4, l5⟩, h2, h3, h4⟩ := q
  refine ⟨Below.setCell h1 l1 _, ⟨l1, l2, l3, by simpa using l4, by simpa using l5⟩, fun t ht => ?_, fun t => by simpa using h3 t, fun t ht => ?_⟩
  · by_cases e : t = b
    · subst e; rw [cell_same (h2 t ht), hx]
    · rw [cell_other (by intro k; injection k with _ k; exact e k.symm), hP t ht e]; exact h2 t ht
  · obtain ⟨s, a, m, c, e1, e2, e3⟩ := h4 t ht
    exact ⟨s, a, m, c, set_ne l3 e1, set_ne l3 e2, e3.set (Or.inl rfl) _⟩
theorem big_less (w : World) : BigV (w.alloc (.cells #[.int .i64 1] 3)) (.agg #[.bool true, .slice (some ⟨w.heap.size, 0, none⟩) 1 1]) (-1) := by
  have e : bitsN (-1 : Int).natAbs = [1] := by rw [show (-1 : Int).natAbs = 1 from rfl, bitsN_pos (by decide)]; simp [bitsN_zero]
  refine ⟨_, rfl, some ⟨w.heap.size, 0, none⟩, 1, by rw [e]; rfl, by rw [e]; decide, by decide, Or.inr ⟨_, 0, rfl, by simp, fun t ht => ?_⟩⟩
  rw [e] at ht ⊢
  obtain rfl : t = 0 := by simp at ht; omega
  exact new_at rfl
theorem big_less_far (w : World) {Bad : Nat → Prop} (hB : ∀ b, Bad b → b < w.heap.size) : BigFar (w.alloc (.cells #[.int .i64 1] 3)) (.agg #[.bool true, .slice (some ⟨w.heap.size, 0, none⟩) 1 1]) (-1) Bad :=
  ⟨_, _, _, _, rfl, big_less w, Or.inr ⟨_, rfl, by simp, fun h => absurd (hB _ h) (Nat.lt_irrefl _)⟩⟩
theorem R2.had {w2 wx : World} {g h n b : Nat} {P R R' : Nat → Int} (q : R2 w2 wx g h n P R) (hb : b < n) (hx : R' b = -1) (hR : ∀ t, t < n → t ≠ b → R' t = R t) :
    R2 w2 (((wx.alloc (.cells #[.int .i64 1] 3)).setCell ⟨h, b * 2, none⟩ (.bool true)).setCell ⟨h, b * 2 + 1, none⟩ (.slice (some ⟨wx.heap.size, 0, none⟩) 1 1)) g h n P R' := by
  have q' := q.keep (below_alloc' (o := .cells #[.int .i64 1] 3) (Below.refl _ _))
  have far := big_less_far wx (Bad := fun b => b = g ∨ b = h) (fun b hb => by
    rcases hb with rfl | rfl
    · exact q.lo.2.2.2.1
    · exact q.lo.2.2.2.2)
  generalize wx.alloc (.cells #[.int .i64 1] 3) = W at *
  obtain ⟨h1, ⟨l1, l2, l3, l4, l5⟩, h2, h3, h4⟩ := q'
  refine ⟨Below.setCell (Below.setCell h1 l2 _) l2 _, ⟨l1, l2, l3, by simpa using l4, by simpa using l5⟩, fun t ht => set_ne (Ne.symm l3) (set_ne (Ne.symm l3) (h2 t ht)), fun t => by simpa using h3 t, fun t ht => ?_⟩
  obtain ⟨s, a, m, c, e1, e2, e3⟩ := h4 t ht
  by_cases e : t = b
  · subst e
    refine ⟨true, _, _, _, set_off (by omega) (set_same e1), set_same (set_off (by omega) e2), ?_⟩
    rw [hx]
    exact (far.set (Or.inr rfl) _).set (Or.inr rfl) _
  · refine ⟨s, a, m, c, set_off (by omega) (set_off (by omega) e1), set_off (by omega) (set_off (by omega) e2), ?_⟩
    rw [hR t ht e]
    exact (e3.set (Or.inr rfl) _).set (Or.inr rfl) _

theorem R2.had' {w2 wx : World} {g h n b : Nat} {P R R' : Nat → Int} (q : R2 w2 wx g h n P R) (hb : b < n) (hx : R' b = -1) (hR : ∀ t, t < n → t ≠ b → R' t = R t) {S : Nat} (hS : S = wx.heap.size) :
    R2 w2 (((wx.setCell ⟨h, b * 2, none⟩ (.bool true)).setCell ⟨h, b * 2 + 1, none⟩ (.slice (some ⟨S, 0, none⟩) 1 1)).alloc (.cells #[.int .i64 1] 3)) g h n P R' := by
  have e := q.had hb hx hR
  have hl := q.lo.2.2.2.2
  subst hS
  rw [World.setCell_alloc_past _ _ _ _ hl, World.setCell_alloc_past _ _ _ _ (by simpa using hl)] at e
  exact e


/-- Where the two blocks may lie. -/
theorem leaf1 {e e' : TypeId} {wr w1 : World} {qs rs : Bool} {qa ra : Option Addr} {qn rn qc rc : Nat} {q r : Int} (G : Hid (Below wr.heap.size wr w1)) (VQ : Hid (BigV w1 (.agg #[.bool qs, .slice qa qn qc]) q)) (VR : Hid (BigV w1 (.agg #[.bool rs, .slice ra rn rc]) r)) (HLc : Hid (LocR wr.heap.size ra)) :
    RCut wr ((w1.alloc (.cells #[.bool qs, .slice qa qn qc] e)).alloc (.cells #[.bool rs, .slice ra rn rc] e')) (.pointer (some ⟨w1.heap.size, 0, none⟩)) (.pointer (some ⟨w1.heap.size + 1, 0, none⟩)) q r := by
  exact rcut_mk (w1 := w1) (by ((repeat (first | (with_reducible exact SG.refl G.out) | (with_reducible refine SG.alloc ?_) | (with_reducible refine SG.setQ ?_ Q1.out.qb (by first | exact Or.inl rfl | exact Or.inr rfl) Q1.out.ge) | (with_reducible refine SG.setQ ?_ Q2.out.qb (by first | exact Or.inl rfl | exact Or.inr rfl) Q2.out.ge) | (with_reducible refine SG.setN ?_ (by first | (with_reducible exact Nat.le_refl _) | (with_reducible exact Nat.le_succ _)) (by first | (with_reducible exact G.out.size) | (with_reducible exact Nat.le_succ_of_le G.out.size))))); done)) VQ.out VR.out HLc.out (by ((repeat (first | (with_reducible exact q10) | (with_reducible exact q11) | (with_reducible exact q20) | (with_reducible exact q21) | (with_reducible refine set_same' ?_) | (with_reducible refine set_off (by decide) ?_) | (with_reducible refine set_ne (by (first | (with_reducible exact q15) | (with_reducible exact q16) | (with_reducible exact q25) | (with_reducible exact q26) | (with_reducible exact hqn) | (with_reducible exact hqm) | (with_reducible exact Nat.ne_of_lt (Nat.lt_succ_of_lt q14)) | (with_reducible exact Nat.ne_of_lt (Nat.lt_succ_of_lt q24)) | (with_reducible exact (Nat.ne_of_lt (Nat.lt_succ_of_lt q14)).symm) | (with_reducible exact (Nat.ne_of_lt (Nat.lt_succ_of_lt q24)).symm) | (with_reducible exact Nat.ne_of_lt (Nat.lt_succ_self _)) | (with_reducible exact (Nat.ne_of_lt (Nat.lt_succ_self _)).symm))) ?_) | ((with_reducible refine new_at' (by first | (with_reducible rfl) | (rw [sz_set, sz_set]) | (rw [sz_alloc]) | (rw [sz_set, sz_set, sz_alloc]) | (rw [sz_alloc, sz_set, sz_set]) | (rw [sz_set, sz_set, sz_set, sz_set])) ?_); rfl) | (with_reducible refine alloc_far ?_) | (with_reducible exact HasC.of q10) | (with_reducible exact HasC.of q11) | (with_reducible exact HasC.of q20) | (with_reducible exact HasC.of q21) | (with_reducible refine HasC.set ?_) | (with_reducible refine HasC.alloc ?_))); done)) (by ((repeat (first | (with_reducible exact q10) | (with_reducible exact q11) | (with_reducible exact q20) | (with_reducible exact q21) | (with_reducible refine set_same' ?_) | (with_reducible refine set_off (by decide) ?_) | (with_reducible refine set_ne (by (first | (with_reducible exact q15) | (with_reducible exact q16) | (with_reducible exact q25) | (with_reducible exact q26) | (with_reducible exact hqn) | (with_reducible exact hqm) | (with_reducible exact Nat.ne_of_lt (Nat.lt_succ_of_lt q14)) | (with_reducible exact Nat.ne_of_lt (Nat.lt_succ_of_lt q24)) | (with_reducible exact (Nat.ne_of_lt (Nat.lt_succ_of_lt q14)).symm) | (with_reducible exact (Nat.ne_of_lt (Nat.lt_succ_of_lt q24)).symm) | (with_reducible exact Nat.ne_of_lt (Nat.lt_succ_self _)) | (with_reducible exact (Nat.ne_of_lt (Nat.lt_succ_self _)).symm))) ?_) | ((with_reducible refine new_at' (by first | (with_reducible rfl) | (rw [sz_set, sz_set]) | (rw [sz_alloc]) | (rw [sz_set, sz_set, sz_alloc]) | (rw [sz_alloc, sz_set, sz_set]) | (rw [sz_set, sz_set, sz_set, sz_set])) ?_); rfl) | (with_reducible refine alloc_far ?_) | (with_reducible exact HasC.of q10) | (with_reducible exact HasC.of q11) | (with_reducible exact HasC.of q20) | (with_reducible exact HasC.of q21) | (with_reducible refine HasC.set ?_) | (with_reducible refine HasC.alloc ?_))); done)) (by ((repeat (first | (with_reducible exact q10) | (with_reducible exact q11) | (with_reducible exact q20) | (with_reducible exact q21) | (with_reducible refine set_same' ?_) | (with_reducible refine set_off (by decide) ?_) | (with_reducible refine set_ne (by (first | (with_reducible exact q15) | (with_reducible exact q16) | (with_reducible exact q25) | (with_reducible exact q26) | (with_reducible exact hqn) | (with_reducible exact hqm) | (with_reducible exact Nat.ne_of_lt (Nat.lt_succ_of_lt q14)) | (with_reducible exact Nat.ne_of_lt (Nat.lt_succ_of_lt q24)) | (with_reducible exact (Nat.ne_of_lt (Nat.lt_succ_of_lt q14)).symm) | (with_reducible exact (Nat.ne_of_lt (Nat.lt_succ_of_lt q24)).symm) | (with_reducible exact Nat.ne_of_lt (Nat.lt_succ_self _)) | (with_reducible exact (Nat.ne_of_lt (Nat.lt_succ_self _)).symm))) ?_) | ((with_reducible refine new_at' (by first | (with_reducible rfl) | (rw [sz_set, sz_set]) | (rw [sz_alloc]) | (rw [sz_set, sz_set, sz_alloc]) | (rw [sz_alloc, sz_set, sz_set]) | (rw [sz_set, sz_set, sz_set, sz_set])) ?_); rfl) | (with_reducible refine alloc_far ?_) | (with_reducible exact HasC.of q10) | (with_reducible exact HasC.of q11) | (with_reducible exact HasC.of q20) | (with_reducible exact HasC.of q21) | (with_reducible refine HasC.set ?_) | (with_reducible refine HasC.alloc ?_))); done)) (by ((repeat (first | (with_reducible exact q10) | (with_reducible exact q11) | (with_reducible exact q20) | (with_reducible exact q21) | (with_reducible refine set_same' ?_) | (with_reducible refine set_off (by decide) ?_) | (with_reducible refine set_ne (by (first | (with_reducible exact q15) | (with_reducible exact q16) | (with_reducible exact q25) | (with_reducible exact q26) | (with_reducible exact hqn) | (with_reducible exact hqm) | (with_reducible exact Nat.ne_of_lt (Nat.lt_succ_of_lt q14)) | (with_reducible exact Nat.ne_of_lt (Nat.lt_succ_of_lt q24)) | (with_reducible exact (Nat.ne_of_lt (Nat.lt_succ_of_lt q14)).symm) | (with_reducible exact (Nat.ne_of_lt (Nat.lt_succ_of_lt q24)).symm) | (with_reducible exact Nat.ne_of_lt (Nat.lt_succ_self _)) | (with_reducible exact (Nat.ne_of_lt (Nat.lt_succ_self _)).symm))) ?_) | ((with_reducible refine new_at' (by first | (with_reducible rfl) | (rw [sz_set, sz_set]) | (rw [sz_alloc]) | (rw [sz_set, sz_set, sz_alloc]) | (rw [sz_alloc, sz_set, sz_set]) | (rw [sz_set, sz_set, sz_set, sz_set])) ?_); rfl) | (with_reducible refine alloc_far ?_) | (with_reducible exact HasC.of q10) | (with_reducible exact HasC.of q11) | (with_reducible exact HasC.of q20) | (with_reducible exact HasC.of q21) | (with_reducible refine HasC.set ?_) | (with_reducible refine HasC.alloc ?_))); done)) (by (first | (with_reducible exact Q1.out.ge) | (with_reducible exact Q2.out.ge) | (with_reducible exact G.out.size) | (with_reducible exact Nat.le_succ_of_le G.out.size)))
theorem leaf2 {e e' : TypeId} {wr w1 : World} {qs rs : Bool} {qa ra : Option Addr} {qn rn qc rc : Nat} {q r : Int} (G : Hid (Below wr.heap.size wr w1)) (VQ : Hid (BigV w1 (.agg #[.bool qs, .slice qa qn qc]) q)) (VR : Hid (BigV w1 (.agg #[.bool rs, .slice ra rn rc]) r)) (HLc : Hid (LocR wr.heap.size ra)) :
    RCut wr ((w1.alloc (.cells #[.bool rs, .slice ra rn rc] e)).alloc (.cells #[.bool qs, .slice qa qn qc] e')) (.pointer (some ⟨w1.heap.size + 1, 0, none⟩)) (.pointer (some ⟨w1.heap.size, 0, none⟩)) q r := by
  exact rcut_mk (w1 := w1) (by ((repeat (first | (with_reducible exact SG.refl G.out) | (with_reducible refine SG.alloc ?_) | (with_reducible refine SG.setQ ?_ Q1.out.qb (by first | exact Or.inl rfl | exact Or.inr rfl) Q1.out.ge) | (with_reducible refine SG.setQ ?_ Q2.out.qb (by first | exact Or.inl rfl | exact Or.inr rfl) Q2.out.ge) | (with_reducible refine SG.setN ?_ (by first | (with_reducible exact Nat.le_refl _) | (with_reducible exact Nat.le_succ _)) (by first | (with_reducible exact G.out.size) | (with_reducible exact Nat.le_succ_of_le G.out.size))))); done)) VQ.out VR.out HLc.out (by ((repeat (first | (with_reducible exact q10) | (with_reducible exact q11) | (with_reducible exact q20) | (with_reducible exact q21) | (with_reducible refine set_same' ?_) | (with_reducible refine set_off (by decide) ?_) | (with_reducible refine set_ne (by (first | (with_reducible exact q15) | (with_reducible exact q16) | (with_reducible exact q25) | (with_reducible exact q26) | (with_reducible exact hqn) | (with_reducible exact hqm) | (with_reducible exact Nat.ne_of_lt (Nat.lt_succ_of_lt q14)) | (with_reducible exact Nat.ne_of_lt (Nat.lt_succ_of_lt q24)) | (with_reducible exact (Nat.ne_of_lt (Nat.lt_succ_of_lt q14)).symm) | (with_reducible exact (Nat.ne_of_lt (Nat.lt_succ_of_lt q24)).symm) | (with_reducible exact Nat.ne_of_lt (Nat.lt_succ_self _)) | (with_reducible exact (Nat.ne_of_lt (Nat.lt_succ_self _)).symm))) ?_) | ((with_reducible refine new_at' (by first | (with_reducible rfl) | (rw [sz_set, sz_set]) | (rw [sz_alloc]) | (rw [sz_set, sz_set, sz_alloc]) | (rw [sz_alloc, sz_set, sz_set]) | (rw [sz_set, sz_set, sz_set, sz_set])) ?_); rfl) | (with_reducible refine alloc_far ?_) | (with_reducible exact HasC.of q10) | (with_reducible exact HasC.of q11) | (with_reducible exact HasC.of q20) | (with_reducible exact HasC.of q21) | (with_reducible refine HasC.set ?_) | (with_reducible refine HasC.alloc ?_))); done)) (by ((repeat (first | (with_reducible exact q10) | (with_reducible exact q11) | (with_reducible exact q20) | (with_reducible exact q21) | (with_reducible refine set_same' ?_) | (with_reducible refine set_off (by decide) ?_) | (with_reducible refine set_ne (by (first | (with_reducible exact q15) | (with_reducible exact q16) | (with_reducible exact q25) | (with_reducible exact q26) | (with_reducible exact hqn) | (with_reducible exact hqm) | (with_reducible exact Nat.ne_of_lt (Nat.lt_succ_of_lt q14)) | (with_reducible exact Nat.ne_of_lt (Nat.lt_succ_of_lt q24)) | (with_reducible exact (Nat.ne_of_lt (Nat.lt_succ_of_lt q14)).symm) | (with_reducible exact (Nat.ne_of_lt (Nat.lt_succ_of_lt q24)).symm) | (with_reducible exact Nat.ne_of_lt (Nat.lt_succ_self _)) | (with_reducible exact (Nat.ne_of_lt (Nat.lt_succ_self _)).symm))) ?_) | ((with_reducible refine new_at' (by first | (with_reducible rfl) | (rw [sz_set, sz_set]) | (rw [sz_alloc]) | (rw [sz_set, sz_set, sz_alloc]) | (rw [sz_alloc, sz_set, sz_set]) | (rw [sz_set, sz_set, sz_set, sz_set])) ?_); rfl) | (with_reducible refine alloc_far ?_) | (with_reducible exact HasC.of q10) | (with_reducible exact HasC.of q11) | (with_reducible exact HasC.of q20) | (with_reducible exact HasC.of q21) | (with_reducible refine HasC.set ?_) | (with_reducible refine HasC.alloc ?_))); done)) (by ((repeat (first | (with_reducible exact q10) | (with_reducible exact q11) | (with_reducible exact q20) | (with_reducible exact q21) | (with_reducible refine set_same' ?_) | (with_reducible refine set_off (by decide) ?_) | (with_reducible refine set_ne (by (first | (with_reducible exact q15) | (with_reducible exact q16) | (with_reducible exact q25) | (with_reducible exact q26) | (with_reducible exact hqn) | (with_reducible exact hqm) | (with_reducible exact Nat.ne_of_lt (Nat.lt_succ_of_lt q14)) | (with_reducible exact Nat.ne_of_lt (Nat.lt_succ_of_lt q24)) | (with_reducible exact (Nat.ne_of_lt (Nat.lt_succ_of_lt q14)).symm) | (with_reducible exact (Nat.ne_of_lt (Nat.lt_succ_of_lt q24)).symm) | (with_reducible exact Nat.ne_of_lt (Nat.lt_succ_self _)) | (with_reducible exact (Nat.ne_of_lt (Nat.lt_succ_self _)).symm))) ?_) | ((with_reducible refine new_at' (by first | (with_reducible rfl) | (rw [sz_set, sz_set]) | (rw [sz_alloc]) | (rw [sz_set, sz_set, sz_alloc]) | (rw [sz_alloc, sz_set, sz_set]) | (rw [sz_set, sz_set, sz_set, sz_set])) ?_); rfl) | (with_reducible refine alloc_far ?_) | (with_reducible exact HasC.of q10) | (with_reducible exact HasC.of q11) | (with_reducible exact HasC.of q20) | (with_reducible exact HasC.of q21) | (with_reducible refine HasC.set ?_) | (with_reducible refine HasC.alloc ?_))); done)) (by ((repeat (first | (with_reducible exact q10) | (with_reducible exact q11) | (with_reducible exact q20) | (with_reducible exact q21) | (with_reducible refine set_same' ?_) | (with_reducible refine set_off (by decide) ?_) | (with_reducible refine set_ne (by (first | (with_reducible exact q15) | (with_reducible exact q16) | (with_reducible exact q25) | (with_reducible exact q26) | (with_reducible exact hqn) | (with_reducible exact hqm) | (with_reducible exact Nat.ne_of_lt (Nat.lt_succ_of_lt q14)) | (with_reducible exact Nat.ne_of_lt (Nat.lt_succ_of_lt q24)) | (with_reducible exact (Nat.ne_of_lt (Nat.lt_succ_of_lt q14)).symm) | (with_reducible exact (Nat.ne_of_lt (Nat.lt_succ_of_lt q24)).symm) | (with_reducible exact Nat.ne_of_lt (Nat.lt_succ_self _)) | (with_reducible exact (Nat.ne_of_lt (Nat.lt_succ_self _)).symm))) ?_) | ((with_reducible refine new_at' (by first | (with_reducible rfl) | (rw [sz_set, sz_set]) | (rw [sz_alloc]) | (rw [sz_set, sz_set, sz_alloc]) | (rw [sz_alloc, sz_set, sz_set]) | (rw [sz_set, sz_set, sz_set, sz_set])) ?_); rfl) | (with_reducible refine alloc_far ?_) | (with_reducible exact HasC.of q10) | (with_reducible exact HasC.of q11) | (with_reducible exact HasC.of q20) | (with_reducible exact HasC.of q21) | (with_reducible refine HasC.set ?_) | (with_reducible refine HasC.alloc ?_))); done)) (by (first | (with_reducible exact Q1.out.ge) | (with_reducible exact Q2.out.ge) | (with_reducible exact G.out.size) | (with_reducible exact Nat.le_succ_of_le G.out.size)))
theorem leaf3 {Q : Nat} {e : TypeId} {wr w1 : World} {qs rs : Bool} {qa ra : Option Addr} {qn rn qc rc : Nat} {q r : Int} (G : Hid (Below wr.heap.size wr w1)) (VQ : Hid (BigV w1 (.agg #[.bool qs, .slice qa qn qc]) q)) (VR : Hid (BigV w1 (.agg #[.bool rs, .slice ra rn rc]) r)) (HLc : Hid (LocR wr.heap.size ra)) (Q1 : Hid (QW wr w1 Q)) :
    RCut wr (((w1.setCell ⟨Q, 0, none⟩ (.bool qs)).setCell ⟨Q, 1, none⟩ (.slice qa qn qc)).alloc (.cells #[.bool rs, .slice ra rn rc] e)) (.pointer (some ⟨Q, 0, none⟩)) (.pointer (some ⟨w1.heap.size, 0, none⟩)) q r := by
  have q10 := Q1.out.qb.c0
  have q11 := Q1.out.qb.c1
  have q14 := Q1.out.qb.lt
  have q15 := Nat.ne_of_lt Q1.out.qb.lt
  exact rcut_mk (w1 := w1) (by ((repeat (first | (with_reducible exact SG.refl G.out) | (with_reducible refine SG.alloc ?_) | (with_reducible refine SG.setQ ?_ Q1.out.qb (by first | exact Or.inl rfl | exact Or.inr rfl) Q1.out.ge) | (with_reducible refine SG.setQ ?_ Q2.out.qb (by first | exact Or.inl rfl | exact Or.inr rfl) Q2.out.ge) | (with_reducible refine SG.setN ?_ (by first | (with_reducible exact Nat.le_refl _) | (with_reducible exact Nat.le_succ _)) (by first | (with_reducible exact G.out.size) | (with_reducible exact Nat.le_succ_of_le G.out.size))))); done)) VQ.out VR.out HLc.out (by ((repeat (first | (with_reducible exact q10) | (with_reducible exact q11) | (with_reducible exact q20) | (with_reducible exact q21) | (with_reducible refine set_same' ?_) | (with_reducible refine set_off (by decide) ?_) | (with_reducible refine set_ne (by (first | (with_reducible exact q15) | (with_reducible exact q16) | (with_reducible exact q25) | (with_reducible exact q26) | (with_reducible exact hqn) | (with_reducible exact hqm) | (with_reducible exact Nat.ne_of_lt (Nat.lt_succ_of_lt q14)) | (with_reducible exact Nat.ne_of_lt (Nat.lt_succ_of_lt q24)) | (with_reducible exact (Nat.ne_of_lt (Nat.lt_succ_of_lt q14)).symm) | (with_reducible exact (Nat.ne_of_lt (Nat.lt_succ_of_lt q24)).symm) | (with_reducible exact Nat.ne_of_lt (Nat.lt_succ_self _)) | (with_reducible exact (Nat.ne_of_lt (Nat.lt_succ_self _)).symm))) ?_) | ((with_reducible refine new_at' (by first | (with_reducible rfl) | (rw [sz_set, sz_set]) | (rw [sz_alloc]) | (rw [sz_set, sz_set, sz_alloc]) | (rw [sz_alloc, sz_set, sz_set]) | (rw [sz_set, sz_set, sz_set, sz_set])) ?_); rfl) | (with_reducible refine alloc_far ?_) | (with_reducible exact HasC.of q10) | (with_reducible exact HasC.of q11) | (with_reducible exact HasC.of q20) | (with_reducible exact HasC.of q21) | (with_reducible refine HasC.set ?_) | (with_reducible refine HasC.alloc ?_))); done)) (by ((repeat (first | (with_reducible exact q10) | (with_reducible exact q11) | (with_reducible exact q20) | (with_reducible exact q21) | (with_reducible refine set_same' ?_) | (with_reducible refine set_off (by decide) ?_) | (with_reducible refine set_ne (by (first | (with_reducible exact q15) | (with_reducible exact q16) | (with_reducible exact q25) | (with_reducible exact q26) | (with_reducible exact hqn) | (with_reducible exact hqm) | (with_reducible exact Nat.ne_of_lt (Nat.lt_succ_of_lt q14)) | (with_reducible exact Nat.ne_of_lt (Nat.lt_succ_of_lt q24)) | (with_reducible exact (Nat.ne_of_lt (Nat.lt_succ_of_lt q14)).symm) | (with_reducible exact (Nat.ne_of_lt (Nat.lt_succ_of_lt q24)).symm) | (with_reducible exact Nat.ne_of_lt (Nat.lt_succ_self _)) | (with_reducible exact (Nat.ne_of_lt (Nat.lt_succ_self _)).symm))) ?_) | ((with_reducible refine new_at' (by first | (with_reducible rfl) | (rw [sz_set, sz_set]) | (rw [sz_alloc]) | (rw [sz_set, sz_set, sz_alloc]) | (rw [sz_alloc, sz_set, sz_set]) | (rw [sz_set, sz_set, sz_set, sz_set])) ?_); rfl) | (with_reducible refine alloc_far ?_) | (with_reducible exact HasC.of q10) | (with_reducible exact HasC.of q11) | (with_reducible exact HasC.of q20) | (with_reducible exact HasC.of q21) | (with_reducible refine HasC.set ?_) | (with_reducible refine HasC.alloc ?_))); done)) (by ((repeat (first | (with_reducible exact q10) | (with_reducible exact q11) | (with_reducible exact q20) | (with_reducible exact q21) | (with_reducible refine set_same' ?_) | (with_reducible refine set_off (by decide) ?_) | (with_reducible refine set_ne (by (first | (with_reducible exact q15) | (with_reducible exact q16) | (with_reducible exact q25) | (with_reducible exact q26) | (with_reducible exact hqn) | (with_reducible exact hqm) | (with_reducible exact Nat.ne_of_lt (Nat.lt_succ_of_lt q14)) | (with_reducible exact Nat.ne_of_lt (Nat.lt_succ_of_lt q24)) | (with_reducible exact (Nat.ne_of_lt (Nat.lt_succ_of_lt q14)).symm) | (with_reducible exact (Nat.ne_of_lt (Nat.lt_succ_of_lt q24)).symm) | (with_reducible exact Nat.ne_of_lt (Nat.lt_succ_self _)) | (with_reducible exact (Nat.ne_of_lt (Nat.lt_succ_self _)).symm))) ?_) | ((with_reducible refine new_at' (by first | (with_reducible rfl) | (rw [sz_set, sz_set]) | (rw [sz_alloc]) | (rw [sz_set, sz_set, sz_alloc]) | (rw [sz_alloc, sz_set, sz_set]) | (rw [sz_set, sz_set, sz_set, sz_set])) ?_); rfl) | (with_reducible refine alloc_far ?_) | (with_reducible exact HasC.of q10) | (with_reducible exact HasC.of q11) | (with_reducible exact HasC.of q20) | (with_reducible exact HasC.of q21) | (with_reducible refine HasC.set ?_) | (with_reducible refine HasC.alloc ?_))); done)) (by ((repeat (first | (with_reducible exact q10) | (with_reducible exact q11) | (with_reducible exact q20) | (with_reducible exact q21) | (with_reducible refine set_same' ?_) | (with_reducible refine set_off (by decide) ?_) | (with_reducible refine set_ne (by (first | (with_reducible exact q15) | (with_reducible exact q16) | (with_reducible exact q25) | (with_reducible exact q26) | (with_reducible exact hqn) | (with_reducible exact hqm) | (with_reducible exact Nat.ne_of_lt (Nat.lt_succ_of_lt q14)) | (with_reducible exact Nat.ne_of_lt (Nat.lt_succ_of_lt q24)) | (with_reducible exact (Nat.ne_of_lt (Nat.lt_succ_of_lt q14)).symm) | (with_reducible exact (Nat.ne_of_lt (Nat.lt_succ_of_lt q24)).symm) | (with_reducible exact Nat.ne_of_lt (Nat.lt_succ_self _)) | (with_reducible exact (Nat.ne_of_lt (Nat.lt_succ_self _)).symm))) ?_) | ((with_reducible refine new_at' (by first | (with_reducible rfl) | (rw [sz_set, sz_set]) | (rw [sz_alloc]) | (rw [sz_set, sz_set, sz_alloc]) | (rw [sz_alloc, sz_set, sz_set]) | (rw [sz_set, sz_set, sz_set, sz_set])) ?_); rfl) | (with_reducible refine alloc_far ?_) | (with_reducible exact HasC.of q10) | (with_reducible exact HasC.of q11) | (with_reducible exact HasC.of q20) | (with_reducible exact HasC.of q21) | (with_reducible refine HasC.set ?_) | (with_reducible refine HasC.alloc ?_))); done)) (by (first | (with_reducible exact Q1.out.ge) | (with_reducible exact Q2.out.ge) | (with_reducible exact G.out.size) | (with_reducible exact Nat.le_succ_of_le G.out.size)))
theorem leaf4 {Q : Nat} {e : TypeId} {wr w1 : World} {qs rs : Bool} {qa ra : Option Addr} {qn rn qc rc : Nat} {q r : Int} (G : Hid (Below wr.heap.size wr w1)) (VQ : Hid (BigV w1 (.agg #[.bool qs, .slice qa qn qc]) q)) (VR : Hid (BigV w1 (.agg #[.bool rs, .slice ra rn rc]) r)) (HLc : Hid (LocR wr.heap.size ra)) (Q1 : Hid (QW wr w1 Q)) :
    RCut wr (((w1.setCell ⟨Q, 0, none⟩ (.bool rs)).setCell ⟨Q, 1, none⟩ (.slice ra rn rc)).alloc (.cells #[.bool qs, .slice qa qn qc] e)) (.pointer (some ⟨w1.heap.size, 0, none⟩)) (.pointer (some ⟨Q, 0, none⟩)) q r := by
  have q10 := Q1.out.qb.c0
  have q11 := Q1.out.qb.c1
  have q14 := Q1.out.qb.lt
  have q15 := Nat.ne_of_lt Q1.out.qb.lt
  exact rcut_mk (w1 := w1) (by ((repeat (first | (with_reducible exact SG.refl G.out) | (with_reducible refine SG.alloc ?_) | (with_reducible refine SG.setQ ?_ Q1.out.qb (by first | exact Or.inl rfl | exact Or.inr rfl) Q1.out.ge) | (with_reducible refine SG.setQ ?_ Q2.out.qb (by first | exact Or.inl rfl | exact Or.inr rfl) Q2.out.ge) | (with_reducible refine SG.setN ?_ (by first | (with_reducible exact Nat.le_refl _) | (with_reducible exact Nat.le_succ _)) (by first | (with_reducible exact G.out.size) | (with_reducible exact Nat.le_succ_of_le G.out.size))))); done)) VQ.out VR.out HLc.out (by ((repeat (first | (with_reducible exact q10) | (with_reducible exact q11) | (with_reducible exact q20) | (with_reducible exact q21) | (with_reducible refine set_same' ?_) | (with_reducible refine set_off (by decide) ?_) | (with_reducible refine set_ne (by (first | (with_reducible exact q15) | (with_reducible exact q16) | (with_reducible exact q25) | (with_reducible exact q26) | (with_reducible exact hqn) | (with_reducible exact hqm) | (with_reducible exact Nat.ne_of_lt (Nat.lt_succ_of_lt q14)) | (with_reducible exact Nat.ne_of_lt (Nat.lt_succ_of_lt q24)) | (with_reducible exact (Nat.ne_of_lt (Nat.lt_succ_of_lt q14)).symm) | (with_reducible exact (Nat.ne_of_lt (Nat.lt_succ_of_lt q24)).symm) | (with_reducible exact Nat.ne_of_lt (Nat.lt_succ_self _)) | (with_reducible exact (Nat.ne_of_lt (Nat.lt_succ_self _)).symm))) ?_) | ((with_reducible refine new_at' (by first | (with_reducible rfl) | (rw [sz_set, sz_set]) | (rw [sz_alloc]) | (rw [sz_set, sz_set, sz_alloc]) | (rw [sz_alloc, sz_set, sz_set]) | (rw [sz_set, sz_set, sz_set, sz_set])) ?_); rfl) | (with_reducible refine alloc_far ?_) | (with_reducible exact HasC.of q10) | (with_reducible exact HasC.of q11) | (with_reducible exact HasC.of q20) | (with_reducible exact HasC.of q21) | (with_reducible refine HasC.set ?_) | (with_reducible refine HasC.alloc ?_))); done)) (by ((repeat (first | (with_reducible exact q10) | (with_reducible exact q11) | (with_reducible exact q20) | (with_reducible exact q21) | (with_reducible refine set_same' ?_) | (with_reducible refine set_off (by decide) ?_) | (with_reducible refine set_ne (by (first | (with_reducible exact q15) | (with_reducible exact q16) | (with_reducible exact q25) | (with_reducible exact q26) | (with_reducible exact hqn) | (with_reducible exact hqm) | (with_reducible exact Nat.ne_of_lt (Nat.lt_succ_of_lt q14)) | (with_reducible exact Nat.ne_of_lt (Nat.lt_succ_of_lt q24)) | (with_reducible exact (Nat.ne_of_lt (Nat.lt_succ_of_lt q14)).symm) | (with_reducible exact (Nat.ne_of_lt (Nat.lt_succ_of_lt q24)).symm) | (with_reducible exact Nat.ne_of_lt (Nat.lt_succ_self _)) | (with_reducible exact (Nat.ne_of_lt (Nat.lt_succ_self _)).symm))) ?_) | ((with_reducible refine new_at' (by first | (with_reducible rfl) | (rw [sz_set, sz_set]) | (rw [sz_alloc]) | (rw [sz_set, sz_set, sz_alloc]) | (rw [sz_alloc, sz_set, sz_set]) | (rw [sz_set, sz_set, sz_set, sz_set])) ?_); rfl) | (with_reducible refine alloc_far ?_) | (with_reducible exact HasC.of q10) | (with_reducible exact HasC.of q11) | (with_reducible exact HasC.of q20) | (with_reducible exact HasC.of q21) | (with_reducible refine HasC.set ?_) | (with_reducible refine HasC.alloc ?_))); done)) (by ((repeat (first | (with_reducible exact q10) | (with_reducible exact q11) | (with_reducible exact q20) | (with_reducible exact q21) | (with_reducible refine set_same' ?_) | (with_reducible refine set_off (by decide) ?_) | (with_reducible refine set_ne (by (first | (with_reducible exact q15) | (with_reducible exact q16) | (with_reducible exact q25) | (with_reducible exact q26) | (with_reducible exact hqn) | (with_reducible exact hqm) | (with_reducible exact Nat.ne_of_lt (Nat.lt_succ_of_lt q14)) | (with_reducible exact Nat.ne_of_lt (Nat.lt_succ_of_lt q24)) | (with_reducible exact (Nat.ne_of_lt (Nat.lt_succ_of_lt q14)).symm) | (with_reducible exact (Nat.ne_of_lt (Nat.lt_succ_of_lt q24)).symm) | (with_reducible exact Nat.ne_of_lt (Nat.lt_succ_self _)) | (with_reducible exact (Nat.ne_of_lt (Nat.lt_succ_self _)).symm))) ?_) | ((with_reducible refine new_at' (by first | (with_reducible rfl) | (rw [sz_set, sz_set]) | (rw [sz_alloc]) | (rw [sz_set, sz_set, sz_alloc]) | (rw [sz_alloc, sz_set, sz_set]) | (rw [sz_set, sz_set, sz_set, sz_set])) ?_); rfl) | (with_reducible refine alloc_far ?_) | (with_reducible exact HasC.of q10) | (with_reducible exact HasC.of q11) | (with_reducible exact HasC.of q20) | (with_reducible exact HasC.of q21) | (with_reducible refine HasC.set ?_) | (with_reducible refine HasC.alloc ?_))); done)) (by ((repeat (first | (with_reducible exact q10) | (with_reducible exact q11) | (with_reducible exact q20) | (with_reducible exact q21) | (with_reducible refine set_same' ?_) | (with_reducible refine set_off (by decide) ?_) | (with_reducible refine set_ne (by (first | (with_reducible exact q15) | (with_reducible exact q16) | (with_reducible exact q25) | (with_reducible exact q26) | (with_reducible exact hqn) | (with_reducible exact hqm) | (with_reducible exact Nat.ne_of_lt (Nat.lt_succ_of_lt q14)) | (with_reducible exact Nat.ne_of_lt (Nat.lt_succ_of_lt q24)) | (with_reducible exact (Nat.ne_of_lt (Nat.lt_succ_of_lt q14)).symm) | (with_reducible exact (Nat.ne_of_lt (Nat.lt_succ_of_lt q24)).symm) | (with_reducible exact Nat.ne_of_lt (Nat.lt_succ_self _)) | (with_reducible exact (Nat.ne_of_lt (Nat.lt_succ_self _)).symm))) ?_) | ((with_reducible refine new_at' (by first | (with_reducible rfl) | (rw [sz_set, sz_set]) | (rw [sz_alloc]) | (rw [sz_set, sz_set, sz_alloc]) | (rw [sz_alloc, sz_set, sz_set]) | (rw [sz_set, sz_set, sz_set, sz_set])) ?_); rfl) | (with_reducible refine alloc_far ?_) | (with_reducible exact HasC.of q10) | (with_reducible exact HasC.of q11) | (with_reducible exact HasC.of q20) | (with_reducible exact HasC.of q21) | (with_reducible refine HasC.set ?_) | (with_reducible refine HasC.alloc ?_))); done)) (by (first | (with_reducible exact Q1.out.ge) | (with_reducible exact Q2.out.ge) | (with_reducible exact G.out.size) | (with_reducible exact Nat.le_succ_of_le G.out.size)))
theorem leaf5 {Q Q' : Nat} {wr w1 : World} {qs rs : Bool} {qa ra : Option Addr} {qn rn qc rc : Nat} {q r : Int} (G : Hid (Below wr.heap.size wr w1)) (VQ : Hid (BigV w1 (.agg #[.bool qs, .slice qa qn qc]) q)) (VR : Hid (BigV w1 (.agg #[.bool rs, .slice ra rn rc]) r)) (HLc : Hid (LocR wr.heap.size ra)) (Q1 : Hid (QW wr w1 Q)) (Q2 : Hid (QW wr w1 Q')) (hqn : Q ≠ Q') :
    RCut wr ((((w1.setCell ⟨Q, 0, none⟩ (.bool qs)).setCell ⟨Q, 1, none⟩ (.slice qa qn qc)).setCell ⟨Q', 0, none⟩ (.bool rs)).setCell ⟨Q', 1, none⟩ (.slice ra rn rc)) (.pointer (some ⟨Q, 0, none⟩)) (.pointer (some ⟨Q', 0, none⟩)) q r := by
  have q10 := Q1.out.qb.c0
  have q11 := Q1.out.qb.c1
  have q14 := Q1.out.qb.lt
  have q15 := Nat.ne_of_lt Q1.out.qb.lt
  have q20 := Q2.out.qb.c0
  have q21 := Q2.out.qb.c1
  have q24 := Q2.out.qb.lt
  have q25 := Nat.ne_of_lt Q2.out.qb.lt
  have hqm := hqn.symm
  exact rcut_mk (w1 := w1) (by ((repeat (first | (with_reducible exact SG.refl G.out) | (with_reducible refine SG.alloc ?_) | (with_reducible refine SG.setQ ?_ Q1.out.qb (by first | exact Or.inl rfl | exact Or.inr rfl) Q1.out.ge) | (with_reducible refine SG.setQ ?_ Q2.out.qb (by first | exact Or.inl rfl | exact Or.inr rfl) Q2.out.ge) | (with_reducible refine SG.setN ?_ (by first | (with_reducible exact Nat.le_refl _) | (with_reducible exact Nat.le_succ _)) (by first | (with_reducible exact G.out.size) | (with_reducible exact Nat.le_succ_of_le G.out.size))))); done)) VQ.out VR.out HLc.out (by ((repeat (first | (with_reducible exact q10) | (with_reducible exact q11) | (with_reducible exact q20) | (with_reducible exact q21) | (with_reducible refine set_same' ?_) | (with_reducible refine set_off (by decide) ?_) | (with_reducible refine set_ne (by (first | (with_reducible exact q15) | (with_reducible exact q16) | (with_reducible exact q25) | (with_reducible exact q26) | (with_reducible exact hqn) | (with_reducible exact hqm) | (with_reducible exact Nat.ne_of_lt (Nat.lt_succ_of_lt q14)) | (with_reducible exact Nat.ne_of_lt (Nat.lt_succ_of_lt q24)) | (with_reducible exact (Nat.ne_of_lt (Nat.lt_succ_of_lt q14)).symm) | (with_reducible exact (Nat.ne_of_lt (Nat.lt_succ_of_lt q24)).symm) | (with_reducible exact Nat.ne_of_lt (Nat.lt_succ_self _)) | (with_reducible exact (Nat.ne_of_lt (Nat.lt_succ_self _)).symm))) ?_) | ((with_reducible refine new_at' (by first | (with_reducible rfl) | (rw [sz_set, sz_set]) | (rw [sz_alloc]) | (rw [sz_set, sz_set, sz_alloc]) | (rw [sz_alloc, sz_set, sz_set]) | (rw [sz_set, sz_set, sz_set, sz_set])) ?_); rfl) | (with_reducible refine alloc_far ?_) | (with_reducible exact HasC.of q10) | (with_reducible exact HasC.of q11) | (with_reducible exact HasC.of q20) | (with_reducible exact HasC.of q21) | (with_reducible refine HasC.set ?_) | (with_reducible refine HasC.alloc ?_))); done)) (by ((repeat (first | (with_reducible exact q10) | (with_reducible exact q11) | (with_reducible exact q20) | (with_reducible exact q21) | (with_reducible refine set_same' ?_) | (with_reducible refine set_off (by decide) ?_) | (with_reducible refine set_ne (by (first | (with_reducible exact q15) | (with_reducible exact q16) | (with_reducible exact q25) | (with_reducible exact q26) | (with_reducible exact hqn) | (with_reducible exact hqm) | (with_reducible exact Nat.ne_of_lt (Nat.lt_succ_of_lt q14)) | (with_reducible exact Nat.ne_of_lt (Nat.lt_succ_of_lt q24)) | (with_reducible exact (Nat.ne_of_lt (Nat.lt_succ_of_lt q14)).symm) | (with_reducible exact (Nat.ne_of_lt (Nat.lt_succ_of_lt q24)).symm) | (with_reducible exact Nat.ne_of_lt (Nat.lt_succ_self _)) | (with_reducible exact (Nat.ne_of_lt (Nat.lt_succ_self _)).symm))) ?_) | ((with_reducible refine new_at' (by first | (with_reducible rfl) | (rw [sz_set, sz_set]) | (rw [sz_alloc]) | (rw [sz_set, sz_set, sz_alloc]) | (rw [sz_alloc, sz_set, sz_set]) | (rw [sz_set, sz_set, sz_set, sz_set])) ?_); rfl) | (with_reducible refine alloc_far ?_) | (with_reducible exact HasC.of q10) | (with_reducible exact HasC.of q11) | (with_reducible exact HasC.of q20) | (with_reducible exact HasC.of q21) | (with_reducible refine HasC.set ?_) | (with_reducible refine HasC.alloc ?_))); done)) (by ((repeat (first | (with_reducible exact q10) | (with_reducible exact q11) | (with_reducible exact q20) | (with_reducible exact q21) | (with_reducible refine set_same' ?_) | (with_reducible refine set_off (by decide) ?_) | (with_reducible refine set_ne (by (first | (with_reducible exact q15) | (with_reducible exact q16) | (with_reducible exact q25) | (with_reducible exact q26) | (with_reducible exact hqn) | (with_reducible exact hqm) | (with_reducible exact Nat.ne_of_lt (Nat.lt_succ_of_lt q14)) | (with_reducible exact Nat.ne_of_lt (Nat.lt_succ_of_lt q24)) | (with_reducible exact (Nat.ne_of_lt (Nat.lt_succ_of_lt q14)).symm) | (with_reducible exact (Nat.ne_of_lt (Nat.lt_succ_of_lt q24)).symm) | (with_reducible exact Nat.ne_of_lt (Nat.lt_succ_self _)) | (with_reducible exact (Nat.ne_of_lt (Nat.lt_succ_self _)).symm))) ?_) | ((with_reducible refine new_at' (by first | (with_reducible rfl) | (rw [sz_set, sz_set]) | (rw [sz_alloc]) | (rw [sz_set, sz_set, sz_alloc]) | (rw [sz_alloc, sz_set, sz_set]) | (rw [sz_set, sz_set, sz_set, sz_set])) ?_); rfl) | (with_reducible refine alloc_far ?_) | (with_reducible exact HasC.of q10) | (with_reducible exact HasC.of q11) | (with_reducible exact HasC.of q20) | (with_reducible exact HasC.of q21) | (with_reducible refine HasC.set ?_) | (with_reducible refine HasC.alloc ?_))); done)) (by ((repeat (first | (with_reducible exact q10) | (with_reducible exact q11) | (with_reducible exact q20) | (with_reducible exact q21) | (with_reducible refine set_same' ?_) | (with_reducible refine set_off (by decide) ?_) | (with_reducible refine set_ne (by (first | (with_reducible exact q15) | (with_reducible exact q16) | (with_reducible exact q25) | (with_reducible exact q26) | (with_reducible exact hqn) | (with_reducible exact hqm) | (with_reducible exact Nat.ne_of_lt (Nat.lt_succ_of_lt q14)) | (with_reducible exact Nat.ne_of_lt (Nat.lt_succ_of_lt q24)) | (with_reducible exact (Nat.ne_of_lt (Nat.lt_succ_of_lt q14)).symm) | (with_reducible exact (Nat.ne_of_lt (Nat.lt_succ_of_lt q24)).symm) | (with_reducible exact Nat.ne_of_lt (Nat.lt_succ_self _)) | (with_reducible exact (Nat.ne_of_lt (Nat.lt_succ_self _)).symm))) ?_) | ((with_reducible refine new_at' (by first | (with_reducible rfl) | (rw [sz_set, sz_set]) | (rw [sz_alloc]) | (rw [sz_set, sz_set, sz_alloc]) | (rw [sz_alloc, sz_set, sz_set]) | (rw [sz_set, sz_set, sz_set, sz_set])) ?_); rfl) | (with_reducible refine alloc_far ?_) | (with_reducible exact HasC.of q10) | (with_reducible exact HasC.of q11) | (with_reducible exact HasC.of q20) | (with_reducible exact HasC.of q21) | (with_reducible refine HasC.set ?_) | (with_reducible refine HasC.alloc ?_))); done)) (by (first | (with_reducible exact Q1.out.ge) | (with_reducible exact Q2.out.ge) | (with_reducible exact G.out.size) | (with_reducible exact Nat.le_succ_of_le G.out.size)))
theorem leaf6 {Q Q' : Nat} {wr w1 : World} {qs rs : Bool} {qa ra : Option Addr} {qn rn qc rc : Nat} {q r : Int} (G : Hid (Below wr.heap.size wr w1)) (VQ : Hid (BigV w1 (.agg #[.bool qs, .slice qa qn qc]) q)) (VR : Hid (BigV w1 (.agg #[.bool rs, .slice ra rn rc]) r)) (HLc : Hid (LocR wr.heap.size ra)) (Q1 : Hid (QW wr w1 Q)) (Q2 : Hid (QW wr w1 Q')) (hqn : Q ≠ Q') :
    RCut wr ((((w1.setCell ⟨Q', 0, none⟩ (.bool rs)).setCell ⟨Q', 1, none⟩ (.slice ra rn rc)).setCell ⟨Q, 0, none⟩ (.bool qs)).setCell ⟨Q, 1, none⟩ (.slice qa qn qc)) (.pointer (some ⟨Q, 0, none⟩)) (.pointer (some ⟨Q', 0, none⟩)) q r := by
  have q10 := Q1.out.qb.c0
  have q11 := Q1.out.qb.c1
  have q14 := Q1.out.qb.lt
  have q15 := Nat.ne_of_lt Q1.out.qb.lt
  have q20 := Q2.out.qb.c0
  have q21 := Q2.out.qb.c1
  have q24 := Q2.out.qb.lt
  have q25 := Nat.ne_of_lt Q2.out.qb.lt
  have hqm := hqn.symm
  exact rcut_mk (w1 := w1) (by ((repeat (first | (with_reducible exact SG.refl G.out) | (with_reducible refine SG.alloc ?_) | (with_reducible refine SG.setQ ?_ Q1.out.qb (by first | exact Or.inl rfl | exact Or.inr rfl) Q1.out.ge) | (with_reducible refine SG.setQ ?_ Q2.out.qb (by first | exact Or.inl rfl | exact Or.inr rfl) Q2.out.ge) | (with_reducible refine SG.setN ?_ (by first | (with_reducible exact Nat.le_refl _) | (with_reducible exact Nat.le_succ _)) (by first | (with_reducible exact G.out.size) | (with_reducible exact Nat.le_succ_of_le G.out.size))))); done)) VQ.out VR.out HLc.out (by ((repeat (first | (with_reducible exact q10) | (with_reducible exact q11) | (with_reducible exact q20) | (with_reducible exact q21) | (with_reducible refine set_same' ?_) | (with_reducible refine set_off (by decide) ?_) | (with_reducible refine set_ne (by (first | (with_reducible exact q15) | (with_reducible exact q16) | (with_reducible exact q25) | (with_reducible exact q26) | (with_reducible exact hqn) | (with_reducible exact hqm) | (with_reducible exact Nat.ne_of_lt (Nat.lt_succ_of_lt q14)) | (with_reducible exact Nat.ne_of_lt (Nat.lt_succ_of_lt q24)) | (with_reducible exact (Nat.ne_of_lt (Nat.lt_succ_of_lt q14)).symm) | (with_reducible exact (Nat.ne_of_lt (Nat.lt_succ_of_lt q24)).symm) | (with_reducible exact Nat.ne_of_lt (Nat.lt_succ_self _)) | (with_reducible exact (Nat.ne_of_lt (Nat.lt_succ_self _)).symm))) ?_) | ((with_reducible refine new_at' (by first | (with_reducible rfl) | (rw [sz_set, sz_set]) | (rw [sz_alloc]) | (rw [sz_set, sz_set, sz_alloc]) | (rw [sz_alloc, sz_set, sz_set]) | (rw [sz_set, sz_set, sz_set, sz_set])) ?_); rfl) | (with_reducible refine alloc_far ?_) | (with_reducible exact HasC.of q10) | (with_reducible exact HasC.of q11) | (with_reducible exact HasC.of q20) | (with_reducible exact HasC.of q21) | (with_reducible refine HasC.set ?_) | (with_reducible refine HasC.alloc ?_))); done)) (by ((repeat (first | (with_reducible exact q10) | (with_reducible exact q11) | (with_reducible exact q20) | (with_reducible exact q21) | (with_reducible refine set_same' ?_) | (with_reducible refine set_off (by decide) ?_) | (with_reducible refine set_ne (by (first | (with_reducible exact q15) | (with_reducible exact q16) | (with_reducible exact q25) | (with_reducible exact q26) | (with_reducible exact hqn) | (with_reducible exact hqm) | (with_reducible exact Nat.ne_of_lt (Nat.lt_succ_of_lt q14)) | (with_reducible exact Nat.ne_of_lt (Nat.lt_succ_of_lt q24)) | (with_reducible exact (Nat.ne_of_lt (Nat.lt_succ_of_lt q14)).symm) | (with_reducible exact (Nat.ne_of_lt (Nat.lt_succ_of_lt q24)).symm) | (with_reducible exact Nat.ne_of_lt (Nat.lt_succ_self _)) | (with_reducible exact (Nat.ne_of_lt (Nat.lt_succ_self _)).symm))) ?_) | ((with_reducible refine new_at' (by first | (with_reducible rfl) | (rw [sz_set, sz_set]) | (rw [sz_alloc]) | (rw [sz_set, sz_set, sz_alloc]) | (rw [sz_alloc, sz_set, sz_set]) | (rw [sz_set, sz_set, sz_set, sz_set])) ?_); rfl) | (with_reducible refine alloc_far ?_) | (with_reducible exact HasC.of q10) | (with_reducible exact HasC.of q11) | (with_reducible exact HasC.of q20) | (with_reducible exact HasC.of q21) | (with_reducible refine HasC.set ?_) | (with_reducible refine HasC.alloc ?_))); done)) (by ((repeat (first | (with_reducible exact q10) | (with_reducible exact q11) | (with_reducible exact q20) | (with_reducible exact q21) | (with_reducible refine set_same' ?_) | (with_reducible refine set_off (by decide) ?_) | (with_reducible refine set_ne (by (first | (with_reducible exact q15) | (with_reducible exact q16) | (with_reducible exact q25) | (with_reducible exact q26) | (with_reducible exact hqn) | (with_reducible exact hqm) | (with_reducible exact Nat.ne_of_lt (Nat.lt_succ_of_lt q14)) | (with_reducible exact Nat.ne_of_lt (Nat.lt_succ_of_lt q24)) | (with_reducible exact (Nat.ne_of_lt (Nat.lt_succ_of_lt q14)).symm) | (with_reducible exact (Nat.ne_of_lt (Nat.lt_succ_of_lt q24)).symm) | (with_reducible exact Nat.ne_of_lt (Nat.lt_succ_self _)) | (with_reducible exact (Nat.ne_of_lt (Nat.lt_succ_self _)).symm))) ?_) | ((with_reducible refine new_at' (by first | (with_reducible rfl) | (rw [sz_set, sz_set]) | (rw [sz_alloc]) | (rw [sz_set, sz_set, sz_alloc]) | (rw [sz_alloc, sz_set, sz_set]) | (rw [sz_set, sz_set, sz_set, sz_set])) ?_); rfl) | (with_reducible refine alloc_far ?_) | (with_reducible exact HasC.of q10) | (with_reducible exact HasC.of q11) | (with_reducible exact HasC.of q20) | (with_reducible exact HasC.of q21) | (with_reducible refine HasC.set ?_) | (with_reducible refine HasC.alloc ?_))); done)) (by ((repeat (first | (with_reducible exact q10) | (with_reducible exact q11) | (with_reducible exact q20) | (with_reducible exact q21) | (with_reducible refine set_same' ?_) | (with_reducible refine set_off (by decide) ?_) | (with_reducible refine set_ne (by (first | (with_reducible exact q15) | (with_reducible exact q16) | (with_reducible exact q25) | (with_reducible exact q26) | (with_reducible exact hqn) | (with_reducible exact hqm) | (with_reducible exact Nat.ne_of_lt (Nat.lt_succ_of_lt q14)) | (with_reducible exact Nat.ne_of_lt (Nat.lt_succ_of_lt q24)) | (with_reducible exact (Nat.ne_of_lt (Nat.lt_succ_of_lt q14)).symm) | (with_reducible exact (Nat.ne_of_lt (Nat.lt_succ_of_lt q24)).symm) | (with_reducible exact Nat.ne_of_lt (Nat.lt_succ_self _)) | (with_reducible exact (Nat.ne_of_lt (Nat.lt_succ_self _)).symm))) ?_) | ((with_reducible refine new_at' (by first | (with_reducible rfl) | (rw [sz_set, sz_set]) | (rw [sz_alloc]) | (rw [sz_set, sz_set, sz_alloc]) | (rw [sz_alloc, sz_set, sz_set]) | (rw [sz_set, sz_set, sz_set, sz_set])) ?_); rfl) | (with_reducible refine alloc_far ?_) | (with_reducible exact HasC.of q10) | (with_reducible exact HasC.of q11) | (with_reducible exact HasC.of q20) | (with_reducible exact HasC.of q21) | (with_reducible refine HasC.set ?_) | (with_reducible refine HasC.alloc ?_))); done)) (by (first | (with_reducible exact Q1.out.ge) | (with_reducible exact Q2.out.ge) | (with_reducible exact G.out.size) | (with_reducible exact Nat.le_succ_of_le G.out.size)))

end Go.Proofs.Ytbjjogbnndmmmaa

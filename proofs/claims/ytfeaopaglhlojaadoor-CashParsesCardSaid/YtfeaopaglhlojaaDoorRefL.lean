/-
  chattelref01's Parts: its contract.
-/
import Derived.Test.YtfeaopaglhlojaaDoorRefK
namespace Go.Proofs.YtfeaopaglhlojaaDoor
open Go.RowKit
set_option linter.unusedVariables false

theorem own_lit1 (w : World) (u : Int) : Own (w.alloc (.cells #[.int .i64 u] 3)) w.heap.size (.slice (some ⟨w.heap.size, 0, none⟩) 1 1) [u] := by
  have h := World.ownsRow_lit (base := w.heap.size) (e := 3) (size := 1) w #[.int .i64 u] 1 (Nat.le_refl _) (by unfold maxLen; omega) rfl
  exact h
theorem own_cons {w' : World} {base : Nat} {v' : Value} {l : List Int} {u : Int} {n : Nat} (h : w'.ownsRow base 3 1 v' ([u].length + n) ([u].map (Value.int .i64) ++ l.map (Value.int .i64))) (hn : n = l.length) : Own w' base v' (u :: l) := by
  unfold Own
  subst hn
  rw [show (u :: l).length = [u].length + l.length from by simp; omega]
  exact h

theorem cons_len (u : Int) {n : Nat} {l : List Int} (h : n = l.length) : (u :: l).length = 1 + n := by rw [h]; simp; omega

theorem len_next {R Y m : Nat} {u : Int} (hRY : R < Y) (hm : m = (bitsN Y).length) (hu : u = 0 ∨ u = 1) : (bitsN (u.toNat + 2 * R)).length ≤ m + 1 := by
  have h1 := bitsN_lt (n := Y) (k := m) (by omega)
  apply bitsN_len
  rw [Nat.pow_succ]
  omega

/-- The call of trim in a round. -/
theorem parts_trim {w1 : World} {base : Nat} {va : Option Addr} {vc n : Nat} {u : Int} {R : Nat} (ho : Own w1 base (.slice va (1 + n) vc) (u :: bitsN R)) (hn : n = (bitsN R).length) (hu : u = 0 ∨ u = 1) (hn1 : n ≤ 100000) :
    Calls Tryd.prog 91 #[.slice va (1 + n) vc] w1 fun e w' => (∃ k, e = .returned (.slice va k vc) ∧ SL w1 (.slice va k vc) (bitsN (u.toNat + 2 * R))) ∧ w' = w1 := by
  obtain ⟨a1, c1, e1, h1, h2, h3⟩ := ho.sl
  have hl : (u :: bitsN R).length = 1 + n := by rw [hn]; simp; omega
  injection e1 with e1 _ e3
  subst e1; subst e3
  have := trim_at (u :: bitsN R) va vc w1 h3 (IsBits.cons hu (bits_of_bitsN R)) h1 h2 (by omega)
  rw [hl, show val (u :: bitsN R) = u.toNat + 2 * R from by show u.toNat + 2 * val (bitsN R) = _; rw [val_bitsN]] at this
  exact this

/-- Where a slice lies. -/
def LocR (B : Nat) (a : Option Addr) : Prop := ∀ ad, a = some ad → B ≤ ad.block
theorem LocR.none (B : Nat) : LocR B none := by intro ad e; cases e
theorem LocR.of_own {w : World} {base B : Nat} {a : Option Addr} {n c : Nat} {l : List Int} (h : Own w base (.slice a n c) l) (hB : B ≤ base) : LocR B a := fun ad e => Nat.le_trans hB (own_loc h rfl ad e)
theorem SL.setFar {w : World} {a : Option Addr} {n c : Nat} {l : List Int} {B : Nat} (h : SL w (.slice a n c) l) (hl : LocR B a) {p : Addr} (hp : p.block < B) (v : Value) : SL (w.setCell p v) (.slice a n c) l := by
  obtain ⟨a', c', e, h1, h2, h3⟩ := h
  injection e with e1 e2 e3
  subst e1; subst e3
  refine ⟨a, c, by rw [e2], h1, h2, ?_⟩
  rcases h3 with h3 | ⟨b, o, rfl, h4, h5⟩
  · exact Or.inl h3
  · refine Or.inr ⟨b, o, rfl, by simpa using h4, fun t ht => ?_⟩
    have := hl _ rfl
    rw [cell_other (fun e => by rw [e] at hp; exact absurd hp (Nat.not_lt.2 this))]
    exact h5 t ht
theorem SL.len {w : World} {a : Option Addr} {n c : Nat} {l : List Int} (h : SL w (.slice a n c) l) : n = l.length ∧ SLF w a l := by
  obtain ⟨a', c', e, h1, h2, h3⟩ := h
  injection e with e1 e2 e3
  subst e1
  exact ⟨e2, h3⟩
theorem parts_ord {w1 : World} {va b : Option Addr} {k1 vc m d R Y : Nat} (hs : SL w1 (.slice va k1 vc) (bitsN R)) (hb : SLF w1 b (bitsN Y)) (hm : m = (bitsN Y).length) (lm : m ≤ 1000) (lk : k1 ≤ 100000) :
    Calls Tryd.prog 89 #[.slice va k1 vc, .slice b m d] w1 fun e w' => e = .returned (.int .i64 (ordZ R Y)) ∧ ∃ q, w' = w1.drewN q := by
  obtain ⟨h1, h2⟩ := hs.len
  subst h1; subst hm
  exact ord_any R Y va b vc d w1 h2 hb (by omega) (by omega)
theorem parts_minus {w1 : World} {va b : Option Addr} {k1 vc m d R Y : Nat} (hs : SL w1 (.slice va k1 vc) (bitsN R)) (hb : SLF w1 b (bitsN Y)) (hm : m = (bitsN Y).length) (lm : m ≤ 1000) (lk : k1 ≤ 100000) (hge : Y ≤ R) :
    Calls Tryd.prog 90 #[.slice va k1 vc, .slice b m d] w1 (MinusAt (R - Y) w1) := by
  obtain ⟨h1, h2⟩ := hs.len
  subst h1; subst hm
  have := minus_at (bitsN R) (bitsN Y) va b vc d w1 h2 hb (bits_of_bitsN _) (bits_of_bitsN _) (by omega) (by omega) (by rw [val_bitsN, val_bitsN]; exact hge)
  rw [val_bitsN, val_bitsN] at this
  exact this

theorem two_stored {w : World} {H : Nat} {a : Option Addr} {n c : Nat} {b : Option Addr} {m d : Nat} {ql : List Int} {w0 : World} (hp : PartsW w0 w a n c b m d ql) (hH : H = w0.heap.size) {v : Value} {l : List Int} (h : SL w v l) (x0 x1 x2 x3 : Value) :
    SL ((((w.setCell ⟨H + 1 + 1, 0, none⟩ x0).setCell ⟨H + 1 + 1, 1, none⟩ x1).setCell ⟨H + 1 + 1 + 1, 0, none⟩ x2).setCell ⟨H + 1 + 1 + 1, 1, none⟩ x3) v l := by
  subst hH
  refine (((h.setCell hp.r0 (by intro n; simp) _).setCell (u := .slice none 0 0) ?_ (by intro n; simp) _).setCell (u := .bool false) ?_ (by intro n; simp) _).setCell (u := .slice none 0 0) ?_ (by intro n; simp) _
  · rw [cell_other (by intro e; simp at e)]; exact hp.r1
  · rw [cell_other (by intro e; simp at e), cell_other (by intro e; simp at e)]; exact hp.s0
  · rw [cell_other (by intro e; simp at e), cell_other (by intro e; simp at e), cell_other (by intro e; simp at e)]; exact hp.s1
theorem big_nat {w : World} {v : Value} {x : Nat} (h : SL w v (bitsN x)) : BigV w (.agg #[.bool false, v]) (x : Int) :=
  ⟨v, by rw [show decide ((x : Int) < 0) = false from decide_eq_false (by omega)], by rw [Int.natAbs_natCast]; exact h⟩

/-- What Parts leaves. -/
def PartsPost (x y : Nat) (w : World) (e : Ending) (w' : World) : Prop := ∃ v v', e = .returned (.tuple #[v, v']) ∧ BigV w' v ((x / y : Nat) : Int) ∧ BigV w' v' ((x % y : Nat) : Int) ∧ Below w.heap.size w w'
/-- The same, and where what is left lies. -/
def PartsPostL (x y : Nat) (w : World) (e : Ending) (w' : World) : Prop := ∃ v v', e = .returned (.tuple #[v, v']) ∧ BigV w' v ((x / y : Nat) : Int) ∧ BigV w' v' ((x % y : Nat) : Int) ∧ Below w.heap.size w w' ∧ ∃ a n c, v' = .agg #[.bool false, .slice a n c] ∧ LocR w.heap.size a

end Go.Proofs.YtfeaopaglhlojaaDoor

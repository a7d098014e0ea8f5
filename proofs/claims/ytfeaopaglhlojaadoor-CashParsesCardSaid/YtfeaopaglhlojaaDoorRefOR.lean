/-
  chattelref02's common: the greatest divisor.
-/
import Derived.Test.YtfeaopaglhlojaaDoorRefN
import Derived.Deep.LoopGhost
import Derived.Test.YtfeaopaglhlojaaDoorHeldV
import Derived.Deep.RegionHeld3
import Derived.Test.YtfeaopaglhlojaaDoorRatK
import Derived.Test.YtfeaopaglhlojaaDoorRLawsM
namespace Go.Proofs.YtfeaopaglhlojaaDoor
open Go.RowKit
set_option linter.unusedVariables false

/-- The cells that common keeps: two numbers and its result. -/
structure ComI (w wx : World) (X Y : Nat) (pa : Option Addr) (na ca : Nat) (pb : Option Addr) (nb cb : Nat) : Prop where
  a0 : wx.cell? ⟨w.heap.size, 0, none⟩ = some (.bool false)
  a1 : wx.cell? ⟨w.heap.size, 1, none⟩ = some (.slice pa na ca)
  b0 : wx.cell? ⟨w.heap.size + 1, 0, none⟩ = some (.bool false)
  b1 : wx.cell? ⟨w.heap.size + 1, 1, none⟩ = some (.slice pb nb cb)
  r0 : wx.cell? ⟨w.heap.size + 1 + 1, 0, none⟩ = some (.bool false)
  r1 : wx.cell? ⟨w.heap.size + 1 + 1, 1, none⟩ = some (.slice none 0 0)
  fz : ∀ b i, w.heap.size ≤ b → b < w.heap.size + 3 → i < 2 → wx.frozen? ⟨b, i, none⟩ = false
  ba : SL wx (.slice pa na ca) (bitsN X)
  bb : SL wx (.slice pb nb cb) (bitsN Y)
  bel : Below w.heap.size w wx
  sz : w.heap.size + 3 ≤ wx.heap.size
theorem ComI.keep {w wx w1 : World} {X Y : Nat} {pa : Option Addr} {na ca : Nat} {pb : Option Addr} {nb cb : Nat} (h : ComI w wx X Y pa na ca pb nb cb) (hb : Below wx.heap.size wx w1) : ComI w w1 X Y pa na ca pb nb cb := by
  have hs := h.sz
  have hs1 := hb.size
  have hc : ∀ b i, b < w.heap.size + 3 → w1.cell? ⟨b, i, none⟩ = wx.cell? ⟨b, i, none⟩ := fun b i hb' => hb.cell (p := ⟨b, i, none⟩) (show b < wx.heap.size by omega)
  have hf : ∀ b i, b < w.heap.size + 3 → w1.frozen? ⟨b, i, none⟩ = wx.frozen? ⟨b, i, none⟩ := fun b i hb' => hb.frozen (p := ⟨b, i, none⟩) (show b < wx.heap.size by omega)
  exact ⟨(hc _ _ (by omega)).trans h.a0, (hc _ _ (by omega)).trans h.a1, (hc _ _ (by omega)).trans h.b0, (hc _ _ (by omega)).trans h.b1, (hc _ _ (by omega)).trans h.r0, (hc _ _ (by omega)).trans h.r1, fun b i g1 g2 g3 => (hf b i g2).trans (h.fz b i g1 g2 g3), h.ba.keep hb, h.bb.keep hb, h.bel.trans (hb.mono (by omega)), by omega⟩
/-- A round's stores. -/
theorem ComI.next {w wx : World} {X Y R : Nat} {pa : Option Addr} {na ca : Nat} {pb : Option Addr} {nb cb : Nat} {pr : Option Addr} {nr cr : Nat} (h : ComI w wx X Y pa na ca pb nb cb) (hr : SL wx (.slice pr nr cr) (bitsN R)) :
    ComI w ((((wx.setCell ⟨w.heap.size, 0, none⟩ (.bool false)).setCell ⟨w.heap.size, 1, none⟩ (.slice pb nb cb)).setCell ⟨w.heap.size + 1, 0, none⟩ (.bool false)).setCell ⟨w.heap.size + 1, 1, none⟩ (.slice pr nr cr)) Y R pb nb cb pr nr cr := by
  have co : ∀ {w : World} {b b' o o' : Nat} {v : Value}, (b ≠ b' ∨ o ≠ o') → (w.setCell ⟨b, o, none⟩ v).cell? ⟨b', o', none⟩ = w.cell? ⟨b', o', none⟩ := fun {w b b' o o' v} h => cell_other (by intro e; injection e with e1 e2; rcases h with h | h; exact h e1; exact h e2)
  have e1 : (wx.setCell ⟨w.heap.size, 0, none⟩ (.bool false)).cell? ⟨w.heap.size, 1, none⟩ = some (.slice pa na ca) := by rw [co (Or.inr (by decide))]; exact h.a1
  have e2 : ((wx.setCell ⟨w.heap.size, 0, none⟩ (.bool false)).setCell ⟨w.heap.size, 1, none⟩ (.slice pb nb cb)).cell? ⟨w.heap.size + 1, 0, none⟩ = some (.bool false) := by rw [co (Or.inl (by omega)), co (Or.inl (by omega))]; exact h.b0
  have e3 : (((wx.setCell ⟨w.heap.size, 0, none⟩ (.bool false)).setCell ⟨w.heap.size, 1, none⟩ (.slice pb nb cb)).setCell ⟨w.heap.size + 1, 0, none⟩ (.bool false)).cell? ⟨w.heap.size + 1, 1, none⟩ = some (.slice pb nb cb) := by rw [co (Or.inr (by decide)), co (Or.inl (by omega)), co (Or.inl (by omega))]; exact h.b1
  have keep : ∀ v l, SL wx v l → SL ((((wx.setCell ⟨w.heap.size, 0, none⟩ (.bool false)).setCell ⟨w.heap.size, 1, none⟩ (.slice pb nb cb)).setCell ⟨w.heap.size + 1, 0, none⟩ (.bool false)).setCell ⟨w.heap.size + 1, 1, none⟩ (.slice pr nr cr)) v l := fun v l hv =>
    (((hv.setCell h.a0 (by intro n; simp) _).setCell e1 (by intro n; simp) _).setCell e2 (by intro n; simp) _).setCell e3 (by intro n; simp) _
  have hl0 : w.heap.size ≤ w.heap.size := Nat.le_refl _
  have hl1 : w.heap.size ≤ w.heap.size + 1 := by omega
  refine ⟨?_, ?_, ?_, ?_, ?_, ?_, fun b i g1 g2 g3 => by simpa using h.fz b i g1 g2 g3, keep _ _ h.bb, keep _ _ hr, Below.setCell (Below.setCell (Below.setCell (Below.setCell h.bel hl0 _) hl0 _) hl1 _) hl1 _, by simpa using h.sz⟩
  · rw [co (Or.inl (by omega)), co (Or.inl (by omega)), co (Or.inr (by decide))]; exact cell_same h.a0
  · rw [co (Or.inl (by omega)), co (Or.inl (by omega))]; exact cell_same e1
  · rw [co (Or.inr (by decide))]; exact cell_same e2
  · exact cell_same e3
  · rw [co (Or.inl (by omega)), co (Or.inl (by omega)), co (Or.inl (by omega)), co (Or.inl (by omega))]; exact h.r0
  · rw [co (Or.inl (by omega)), co (Or.inl (by omega)), co (Or.inl (by omega)), co (Or.inl (by omega))]; exact h.r1

theorem ComI.start {w : World} {X Y : Nat} {pa : Option Addr} {na ca : Nat} {pb : Option Addr} {nb cb : Nat} (e : TypeId) (ha : SL w (.slice pa na ca) (bitsN X)) (hb : SL w (.slice pb nb cb) (bitsN Y)) :
    ComI w (((w.alloc (.cells #[.bool false, .slice pa na ca] e)).alloc (.cells #[.bool false, .slice pb nb cb] e)).alloc (.cells #[.bool false, .slice none 0 0] e)) X Y pa na ca pb nb cb := by
  have z1 : (w.alloc (.cells #[.bool false, .slice pa na ca] e)).heap.size = w.heap.size + 1 := by simp
  have z2 : ((w.alloc (.cells #[.bool false, .slice pa na ca] e)).alloc (.cells #[.bool false, .slice pb nb cb] e)).heap.size = w.heap.size + 1 + 1 := by simp
  have hbel : Below w.heap.size w (((w.alloc (.cells #[.bool false, .slice pa na ca] e)).alloc (.cells #[.bool false, .slice pb nb cb] e)).alloc (.cells #[.bool false, .slice none 0 0] e)) := Below.alloc (Below.alloc (Below.alloc (Below.refl _ w) (Nat.le_refl _) _) (by simp) _) (by simp; omega) _
  refine ⟨?_, ?_, ?_, ?_, ?_, ?_, ?_, ha.keep hbel, hb.keep hbel, hbel, by simp⟩
  · rw [World.cell?_alloc_past _ _ _ (by rw [z2]; show w.heap.size < w.heap.size + 1 + 1; omega), World.cell?_alloc_past _ _ _ (by rw [z1]; show w.heap.size < w.heap.size + 1; omega)]; exact new_at rfl
  · rw [World.cell?_alloc_past _ _ _ (by rw [z2]; show w.heap.size < w.heap.size + 1 + 1; omega), World.cell?_alloc_past _ _ _ (by rw [z1]; show w.heap.size < w.heap.size + 1; omega)]; exact new_at rfl
  · rw [World.cell?_alloc_past _ _ _ (by rw [z2]; show w.heap.size + 1 < w.heap.size + 1 + 1; omega), ← z1]; exact new_at rfl
  · rw [World.cell?_alloc_past _ _ _ (by rw [z2]; show w.heap.size + 1 < w.heap.size + 1 + 1; omega), ← z1]; exact new_at rfl
  · rw [← z2]; exact new_at rfl
  · rw [← z2]; exact new_at rfl
  · intro b i g1 g2 g3
    by_cases c2 : b = w.heap.size + 1 + 1
    · subst c2; exact World.frozen?_alloc_at _ _ _ _ z2.symm
    · rw [World.frozen?_alloc_past _ _ _ (by rw [z2]; show b < w.heap.size + 1 + 1; omega)]
      by_cases c1 : b = w.heap.size + 1
      · subst c1; exact World.frozen?_alloc_at _ _ _ _ z1.symm
      · rw [World.frozen?_alloc_past _ _ _ (by rw [z1]; show b < w.heap.size + 1; omega)]
        obtain rfl : b = w.heap.size := by omega
        exact World.frozen?_alloc_at _ _ _ _ rfl

/-- How many digits, and that both stay small. -/
structure ComN (X0 Y0 X Y : Nat) : Prop where
  g : Nat.gcd X Y = Nat.gcd X0 Y0
  lx : (bitsN X).length ≤ 900
  ly : (bitsN Y).length ≤ 900
theorem ComN.next {X0 Y0 X Y : Nat} (h : ComN X0 Y0 X Y) (hY : 0 < Y) : ComN X0 Y0 Y (X % Y) := by
  refine ⟨?_, h.ly, ?_⟩
  · rw [← h.g, Nat.gcd_comm X Y, Nat.gcd_rec Y X, Nat.gcd_comm]
  · have h1 := bitsN_lt h.ly
    exact bitsN_len 900 _ (Nat.lt_of_lt_of_le (Nat.mod_lt _ hY) (Nat.le_of_lt h1))

end Go.Proofs.YtfeaopaglhlojaaDoor

namespace Go.Proofs.YtfeaopaglhlojaaDoor
open Go.RowKit
set_option linter.unusedVariables false

/-- A number through another one. -/
def BigQ (w : World) (v : Value) (n d : Int) : Prop := ∃ s t, v = .agg #[.bool (decide (n < 0)), s, .bool (decide (d < 0)), t] ∧ SL w s (bitsN n.natAbs) ∧ SL w t (bitsN d.natAbs)
theorem BigQ.keep {w w' : World} {v : Value} {n d : Int} (h : BigQ w v n d) (hb : Below w.heap.size w w') : BigQ w' v n d := by
  obtain ⟨s, t, e, h1, h2⟩ := h
  exact ⟨s, t, e, h1.keep hb, h2.keep hb⟩
theorem BigQ.parts {w : World} {v : Value} {n d : Int} (h : BigQ w v n d) : ∃ s a k c s' a' k' c', v = .agg #[.bool s, .slice a k c, .bool s', .slice a' k' c'] ∧ BigV w (.agg #[.bool s, .slice a k c]) n ∧ BigV w (.agg #[.bool s', .slice a' k' c']) d ∧ s = decide (n < 0) ∧ s' = decide (d < 0) := by
  obtain ⟨s, t, rfl, h1, h2⟩ := h
  obtain ⟨a, c, rfl, _⟩ := id h1
  obtain ⟨a', c', rfl, _⟩ := id h2
  exact ⟨_, a, _, c, _, a', _, c', rfl, ⟨_, rfl, h1⟩, ⟨_, rfl, h2⟩, rfl, rfl⟩
theorem BigQ.of {w : World} {s s' : Bool} {x x' : Value} {n d : Int} (h : BigV w (.agg #[.bool s, x]) n) (h' : BigV w (.agg #[.bool s', x']) d) : BigQ w (.agg #[.bool s, x, .bool s', x']) n d := by
  obtain ⟨e1, e2⟩ := bigv_sign h
  obtain ⟨e3, e4⟩ := bigv_sign h'
  exact ⟨_, _, by rw [e1, e3], e2, e4⟩

theorem four_stored {w : World} {Q : Nat} {v : Value} {z : Int} (h : BigV w v z) {s0 s1 : Bool} {a0 a1 : Option Addr} {n0 n1 c0 c1 : Nat} (h0 : w.cell? ⟨Q, 0, none⟩ = some (.bool s0)) (h1 : w.cell? ⟨Q, 1, none⟩ = some (.slice a0 n0 c0)) (h2 : w.cell? ⟨Q, 2, none⟩ = some (.bool s1)) (h3 : w.cell? ⟨Q, 3, none⟩ = some (.slice a1 n1 c1)) (x0 x1 x2 x3 : Value) :
    BigV ((((w.setCell ⟨Q, 0, none⟩ x0).setCell ⟨Q, 1, none⟩ x1).setCell ⟨Q, 2, none⟩ x2).setCell ⟨Q, 3, none⟩ x3) v z := by
  have co : ∀ {w : World} {o o' : Nat} {v : Value}, o ≠ o' → (w.setCell ⟨Q, o, none⟩ v).cell? ⟨Q, o', none⟩ = w.cell? ⟨Q, o', none⟩ := fun {w o o' v} h => cell_other (by intro e; injection e with e1 e2; exact h e2)
  refine (((h.set h0 (by intro n; simp) _).set (u := .slice a0 n0 c0) ?_ (by intro n; simp) _).set (u := .bool s1) ?_ (by intro n; simp) _).set (u := .slice a1 n1 c1) ?_ (by intro n; simp) _
  · rw [co (by decide)]; exact h1
  · rw [co (by decide), co (by decide)]; exact h2
  · rw [co (by decide), co (by decide), co (by decide)]; exact h3
theorem four_below {w wx : World} {Q : Nat} (h : Below w.heap.size w wx) (hQ : w.heap.size ≤ Q) (x0 x1 x2 x3 : Value) : Below w.heap.size w ((((wx.setCell ⟨Q, 0, none⟩ x0).setCell ⟨Q, 1, none⟩ x1).setCell ⟨Q, 2, none⟩ x2).setCell ⟨Q, 3, none⟩ x3) :=
  Below.setCell (Below.setCell (Below.setCell (Below.setCell h hQ _) hQ _) hQ _) hQ _

end Go.Proofs.YtfeaopaglhlojaaDoor

namespace Go.Proofs.YtfeaopaglhlojaaDoor
open Go.RowKit
set_option linter.unusedVariables false

theorem fit_parts (n d : Int) (hd : d ≠ 0) : fitV (rat n d) = if 9223372036854775807 < absI n / ((Int.gcd n d : Nat) : Int) ∨ 9223372036854775807 < absI d / ((Int.gcd n d : Nat) : Int) then tup 0 0 11 else tup (sgn (decide (n < 0) != decide (d < 0)) (absI n / ((Int.gcd n d : Nat) : Int))) (absI d / ((Int.gcd n d : Nat) : Int)) 0 := by
  obtain ⟨hnum, hden⟩ := of_parts n d hd
  have hg : 0 < ((Int.gcd n d : Nat) : Int) := by have := Int.gcd_pos_of_ne_zero_right n hd; omega
  generalize ((Int.gcd n d : Nat) : Int) = g at *
  have pn0 := (quo_bd (a := absI n) (by unfold absI; omega) hg).1
  have pd0 := (quo_bd (a := absI d) (by unfold absI; omega) hg).1
  unfold fitV
  by_cases h : 9223372036854775807 < absI n / g ∨ 9223372036854775807 < absI d / g
  · rw [if_pos h]
    have hf : fitsR (rat n d) = false := by
      unfold fitsR; rw [hnum, hden]; apply decide_eq_false
      rintro ⟨h1, h2, h3⟩
      rcases h with h | h
      · generalize (decide (n < 0) != decide (d < 0)) = sg at h1 h2
        cases sg
        · have : absI n / g ≤ 9223372036854775807 := h2
          omega
        · have : -9223372036854775807 ≤ -(absI n / g) := h1
          omega
      · omega
    obtain ⟨e1, e2, e3⟩ := fit_out hf
    rw [e1, e2, e3]
  · rw [if_neg h]
    have hf : fitsR (rat n d) = true := by
      unfold fitsR; rw [hnum, hden]; apply decide_eq_true
      unfold sgn
      refine ⟨?_, ?_, by omega⟩
      · split <;> omega
      · split <;> omega
    obtain ⟨e1, e2, e3⟩ := fit_in hf
    rw [e1, e2, e3, hnum, hden]

theorem nat_quo (n : Int) (g : Nat) : ((n.natAbs / g : Nat) : Int) = absI n / (g : Int) := by unfold absI; rw [Int.natCast_ediv]
theorem gcd_lim {k : Nat} {n d : Int} (hd : d ≠ 0) (l : d.natAbs < 2 ^ k) : ((Int.gcd n d : Nat) : Int).natAbs < 2 ^ k := by
  rw [Int.natAbs_natCast]
  exact Nat.lt_of_le_of_lt (Nat.gcd_le_right _ (by omega)) l
theorem quo_lim {k x y : Nat} (l : x < 2 ^ k) : ((x / y : Nat) : Int).natAbs < 2 ^ k := by
  rw [Int.natAbs_natCast]
  exact Nat.lt_of_le_of_lt (Nat.div_le_self _ _) l

/-- A number that is not below nought: does it fit? -/
def fitB (z : Nat) : Bool := decide ((z : Int) ≤ 9223372036854775807)
def fitM (z : Nat) : Int := if fitB z then (z : Int) else 0
theorem rintN_any (z : Nat) (v : Value) (w : World) (h : BigV w v (z : Int)) (hz : (z : Int).natAbs < 2 ^ 1000) :
    Calls Tryd.prog 43 #[v] w fun e w' => e = .returned (.tuple #[.int .i64 (fitM z), .bool (fitB z)]) ∧ Below w.heap.size w w' := by
  refine (rint_any (z : Int) v w h hz).mono ?_
  rintro e w' ⟨h1, h2, hb⟩
  refine ⟨?_, hb⟩
  unfold fitM fitB
  by_cases g : (z : Int) ≤ 9223372036854775807
  · rw [decide_eq_true g]; exact h1 ⟨by omega, g⟩
  · rw [decide_eq_false g]; exact h2 (fun k => g k.2)

end Go.Proofs.YtfeaopaglhlojaaDoor

namespace Go.Proofs.YtfeaopaglhlojaaDoor
open Go.RowKit
set_option linter.unusedVariables false

theorem int_lim900 {n : Int} (b0 : -9223372036854775808 ≤ n) (b1 : n ≤ 9223372036854775807) : n.natAbs < 2 ^ 900 := pow_big 900 (by decide) (by omega)

theorem chk_of {n d : Int} (hd : d ≠ 0) (n0 : -9223372036854775808 ≤ n) (n1 : n ≤ 9223372036854775807) (d1 : d ≤ 9223372036854775807) :
    (chkE n d = 0 ∧ rE (rat n d) = 0 ∧ rN (rat n d) = n ∧ rD (rat n d) = d) ∨ (chkE n d = 13 ∧ (rE (rat n d) ≠ 0 ∨ (rN (rat n d) == n && rD (rat n d) == d) = false)) := by
  by_cases h : chkE n d = 0
  · left
    have ok := chkE_zero h n0 n1 d1
    obtain ⟨e1, e2, e3⟩ := fit_in (fitsR_ok ok)
    exact ⟨h, e3, e1.trans ok.num, e2.trans ok.den⟩
  · right
    have h13 : chkE n d = 13 := by
      rcases chkE_cases n d with g | g | g
      · exact absurd g h
      · unfold chkE at g; rw [if_neg hd] at g; split at g <;> cases g
      · exact g
    refine ⟨h13, ?_⟩
    by_cases hf : fitsR (rat n d) = true
    · right
      obtain ⟨e1, e2, e3⟩ := fit_in hf
      by_cases g : (rN (rat n d) == n && rD (rat n d) == d) = true
      · exfalso
        rw [Bool.and_eq_true, beq_iff_eq, beq_iff_eq] at g
        have ok := okR_of hf
        rw [← e1, ← e2, g.1, g.2] at ok
        exact h (chkE_ok ok)
      · simpa using g
    · left
      rw [(fit_out (show fitsR (rat n d) = false by simpa using hf)).2.2]; decide

end Go.Proofs.YtfeaopaglhlojaaDoor

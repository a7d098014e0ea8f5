/-
  chattelref02's common: the greatest divisor.
-/
import Derived.Test.YtgeneoamngfomaaGreatDoorRf
import Derived.Deep.LoopGhost
import Derived.Test.YtgeneoamngfomaaGreatDoorHeldV
import Derived.Deep.RegionHeld3
import Derived.Test.YtgeneoamngfomaaGreatDoorRtJ
import Derived.Test.YtgeneoamngfomaaGreatDoorRLawsM
namespace Go.Proofs.YtgeneoamngfomaaGreatDoor
open Go.RowKit
set_option linter.unusedVariables false

/-- The cells that common keeps: two numbers and its result. -/
structure ComI (w wx : World) (X Y : Nat) (pa : Option Addr) (na ca : Nat) (pb : Option Addr) (nb cb : Nat) : Prop where
  a0 : wx.cell? ⟨w.heap.size, 0, none⟩ = some (.bool false)
  a1 : wx.cell? ⟨w.heap.size, 1, none⟩ = some (.slice pa na ca)
  b0 : wx.cell? ⟨w.heap.size + 1, 0, none⟩ = some (.bool false)
  b1 : wx.cell? ⟨w.heap.size + 1, 1, none⟩ = some (.slice pb nb cb)
  r0 : wx.cell? ⟨w.heap.size + 1 + 1, 0, none⟩ = some (.bool false)
  r1 : wx.cell? ⟨w.heap.size + 1 + 1, 1, none⟩ = some (.slice none 0 0)
  fz : ∀ b i, w.heap.size ≤ b → b < w.heap.size + 3 → i < 2 → wx.frozen? ⟨b, i, none⟩ = false
  ba : SL wx (.slice pa na ca) (bitsN X)
  bb : SL wx (.slice pb nb cb) (bitsN Y)
  bel : Below w.heap.size w wx
  sz : w.heap.size + 3 ≤ wx.heap.size
theorem ComI.keep {w wx w1 : World} {X Y : Nat} {pa : Option Addr} {na ca : Nat} {pb : Option Addr} {nb cb : Nat} (h : ComI w wx X Y pa na ca pb nb cb) (hb : Below wx.heap.size wx w1) : ComI w w1 X Y pa na ca pb nb cb := by
  have hs := h.sz
  have hs1 := hb.size
  have hc : ∀ b i, b < w.heap.size + 3 → w1.cell? ⟨b, i, none⟩ = wx.cell? ⟨b, i, none⟩ := fun b i hb' => hb.cell (p := ⟨b, i, none⟩) (show b < wx.heap.size by omega)
  have hf : ∀ b i, b < w.heap.size + 3 → w1.frozen? ⟨b, i, none⟩ = wx.frozen? ⟨b, i, none⟩ := fun b i hb' => hb.frozen (p := ⟨b, i, none⟩) (show b < wx.heap.size by omega)
  exact ⟨(hc _ _ (by omega)).trans h.a0, (hc _ _ (by omega)).trans h.a1, (hc _ _ (by omega)).trans h.b0, (hc _ _ (by omega)).trans h.b1, (hc _ _ (by omega)).trans h.r0, (hc _ _ (by omega)).trans h.r1, fun b i g1 g2 g3 => (hf b i g2).trans (h.fz b i g1 g2 g3), h.ba.keep hb, h.bb.keep hb, h.bel.trans (hb.mono (by omega)), by omega⟩
/-- A round's stores. -/
theorem ComI.next {w wx : World} {X Y R : Nat} {pa : Option Addr} {na ca : Nat} {pb : Option Addr} {nb cb : Nat} {pr : Option Addr} {nr cr : Nat} (h : ComI w wx X Y pa na ca pb nb cb) (hr : SL wx (.slice pr nr cr) (bitsN R)) :
    ComI w ((((wx.setCell ⟨w.heap.size, 0, none⟩ (.bool false)).setCell ⟨w.heap.size, 1, none⟩ (.slice pb nb cb)).setCell ⟨w.heap.size + 1, 0, none⟩ (.bool false)).setCell ⟨w.heap.size + 1, 1, none⟩ (.slice pr nr cr)) Y R pb nb cb pr nr cr := by
  have co : ∀ {w : World} {b b' o o' : Nat} {v : Value}, (b ≠ b' ∨ o ≠ o') → (w.setCell ⟨b, o, none⟩ v).cell? ⟨b', o', none⟩ = w.cell? ⟨b', o', none⟩ := fun {w b b' o o' v} h => cell_other (by intro e; injection e with e1 e2; rcases h with h | h; exact h e1; exact h e2)
  have e1 : (wx.setCell ⟨w.heap.size, 0, none⟩ (.bool false)).cell? ⟨w.heap.size, 1, none⟩ = some (.slice pa na ca) := by rw [co (Or.inr (by decide))]; exact h.a1
  have e2 : ((wx.setCell ⟨w.heap.size, 0, none⟩ (.bool false)).setCell ⟨w.heap.size, 1, none⟩ (.slice pb nb cb)).cell? ⟨w.heap.size + 1, 0, none⟩ = some (.bool false) := by rw [co (Or.inl (by omega)), co (Or.inl (by omega))]; exact h.b0
  have e3 : (((wx.setCell ⟨w.heap.size, 0, none⟩ (.bool false)).setCell ⟨w.heap.size, 1, none⟩ (.slice pb nb cb)).setCell ⟨w.heap.size + 1, 0, none⟩ (.bool false)).cell? ⟨w.heap.size + 1, 1, none⟩ = some (.slice pb nb cb) := by rw [co (Or.inr (by decide)), co (Or.inl (by omega)), co (Or.inl (by omega))]; exact h.b1
  have keep : ∀ v l, SL wx v l → SL ((((wx.setCell ⟨w.heap.size, 0, none⟩ (.bool false)).setCell ⟨w.heap.size, 1, none⟩ (.slice pb nb cb)).setCell ⟨w.heap.size + 1, 0, none⟩ (.bool false)).setCell ⟨w.heap.size + 1, 1, none⟩ (.slice pr nr cr)) v l := fun v l hv =>
    (((hv.setCell h.a0 (by intro n; simp) _).setCell e1 (by intro n; simp) _).setCell e2 (by intro n; simp) _).setCell e3 (by intro n; simp) _
  have hl0 : w.heap.size ≤ w.heap.size := Nat.le_refl _
  have hl1 : w.heap.size ≤ w.heap.size + 1 := by omega
  refine ⟨?_, ?_, ?_, ?_, ?_, ?_, fun b i g1 g2 g3 => by simpa using h.fz b i g1 g2 g3, keep _ _ h.bb, keep _ _ hr, Below.setCell (Below.setCell (Below.setCell (Below.setCell h.bel hl0 _) hl0 _) hl1 _) hl1 _, by simpa using h.sz⟩
  · rw [co (Or.inl (by omega)), co (Or.inl (by omega)), co (Or.inr (by decide))]; exact cell_same h.a0
  · rw [co (Or.inl (by omega)), co (Or.inl (by omega))]; exact cell_same e1
  · rw [co (Or.inr (by decide))]; exact cell_same e2
  · exact cell_same e3
  · rw [co (Or.inl (by omega)), co (Or.inl (by omega)), co (Or.inl (by omega)), co (Or.inl (by omega))]; exact h.r0
  · rw [co (Or.inl (by omega)), co (Or.inl (by omega)), co (Or.inl (by omega)), co (Or.inl (by omega))]; exact h.r1

theorem ComI.start {w : World} {X Y : Nat} {pa : Option Addr} {na ca : Nat} {pb : Option Addr} {nb cb : Nat} (e : TypeId) (ha : SL w (.slice pa na ca) (bitsN X)) (hb : SL w (.slice pb nb cb) (bitsN Y)) :
    ComI w (((w.alloc (.cells #[.bool false, .slice pa na ca] e)).alloc (.cells #[.bool false, .slice pb nb cb] e)).alloc (.cells #[.bool false, .slice none 0 0] e)) X Y pa na ca pb nb cb := by
  have z1 : (w.alloc (.cells #[.bool false, .slice pa na ca] e)).heap.size = w.heap.size + 1 := by simp
  have z2 : ((w.alloc (.cells #[.bool false, .slice pa na ca] e)).alloc (.cells #[.bool false, .slice pb nb cb] e)).heap.size = w.heap.size + 1 + 1 := by simp
  have hbel : Below w.heap.size w (((w.alloc (.cells #[.bool false, .slice pa na ca] e)).alloc (.cells #[.bool false, .slice pb nb cb] e)).alloc (.cells #[.bool false, .slice none 0 0] e)) := Below.alloc (Below.alloc (Below.alloc (Below.refl _ w) (Nat.le_refl _) _) (by simp) _) (by simp; omega) _
  refine ⟨?_, ?_, ?_, ?_, ?_, ?_, ?_, ha.keep hbel, hb.keep hbel, hbel, by simp⟩
  · rw [World.cell?_alloc_past _ _ _ (by rw [z2]; show w.heap.size < w.heap.size + 1 + 1; omega), World.cell?_alloc_past _ _ _ (by rw [z1]; show w.heap.size < w.heap.size + 1; omega)]; exact new_at rfl
  · rw [World.cell?_alloc_past _ _ _ (by rw [z2]; show w.heap.size < w.heap.size + 1 + 1; omega), World.cell?_alloc_past _ _ _ (by rw [z1]; show w.heap.size < w.heap.size + 1; omega)]; exact new_at rfl
  · rw [World.cell?_alloc_past _ _ _ (by rw [z2]; show w.heap.size + 1 < w.heap.size + 1 + 1; omega), ← z1]; exact new_at rfl
  · rw [World.cell?_alloc_past _ _ _ (by rw [z2]; show w.heap.size + 1 < w.heap.size + 1 + 1; omega), ← z1]; exact new_at rfl
  · rw [← z2]; exact new_at rfl
  · rw [← z2]; exact new_at rfl
  · intro b i g1 g2 g3
    by_cases c2 : b = w.heap.size + 1 + 1
    · subst c2; exact World.frozen?_alloc_at _ _ _ _ z2.symm
    · rw [World.frozen?_alloc_past _ _ _ (by rw [z2]; show b < w.heap.size + 1 + 1; omega)]
      by_cases c1 : b = w.heap.size + 1
      · subst c1; exact World.frozen?_alloc_at _ _ _ _ z1.symm
      · rw [World.frozen?_alloc_past _ _ _ (by rw [z1]; show b < w.heap.size + 1; omega)]
        obtain rfl : b = w.heap.size := by omega
        exact World.frozen?_alloc_at _ _ _ _ rfl

/-- How many digits, and that both stay small. -/
structure ComN (X0 Y0 X Y : Nat) : Prop where
  g : Nat.gcd X Y = Nat.gcd X0 Y0
  lx : (bitsN X).length ≤ 900
  ly : (bitsN Y).length ≤ 900
theorem ComN.next {X0 Y0 X Y : Nat} (h : ComN X0 Y0 X Y) (hY : 0 < Y) : ComN X0 Y0 Y (X % Y) := by
  refine ⟨?_, h.ly, ?_⟩
  · rw [← h.g, Nat.gcd_comm X Y, Nat.gcd_rec Y X, Nat.gcd_comm]
  · have h1 := bitsN_lt h.ly
    exact bitsN_len 900 _ (Nat.lt_of_lt_of_le (Nat.mod_lt _ hY) (Nat.le_of_lt h1))

set_option maxHeartbeats 4000000 in
set_option maxRecDepth 100000 in
theorem com_main (X0 Y0 : Nat) (pa pb : Option Addr) (na ca nb cb : Nat) (w : World) (sa sb : Bool) (ha : SL w (.slice pa na ca) (bitsN X0)) (hb : SL w (.slice pb nb cb) (bitsN Y0)) (hn : ComN X0 Y0 X0 Y0) :
    Calls Tryz.prog 69 #[.agg #[.bool sa, .slice pa na ca], .agg #[.bool sb, .slice pb nb cb]] w fun e w' => (∃ v, e = .returned v ∧ BigV w' v ((Nat.gcd X0 Y0 : Nat) : Int)) ∧ Below w.heap.size w w' := by
  have HI0 := Lib.hid (ComI.start 88 ha hb)
  have HN0 := Lib.hid hn
  clear ha hb hn
  go_enter Tryz.func69, Tryz.ntmps69
  go_wp2
  go_loopg [] Y0 (fun k wr => ∃ (X : Nat) (qa : Option Addr) (ma da : Nat) (qb : Option Addr) (mb db : Nat), ComI w wr X k qa ma da qb mb db ∧ ComN X0 Y0 X k)
  case atStart =>
    exact ⟨X0, _, _, _, _, _, _, HI0.out, HN0.out⟩
  case round =>
    clear HI0 HN0
    obtain ⟨X, qa, ma, da, qb, mb, db, hI, hN⟩ := hrel
    obtain ⟨a0, a1, b0, b1, r0, r1, fz, ba, bb, bel, sz⟩ := id hI
    have hmb := bb.len.1
    have fa0 := fz w.heap.size 0 (by omega) (by omega) (by omega)
    have fa1 := fz w.heap.size 1 (by omega) (by omega) (by omega)
    have fb0 := fz (w.heap.size + 1) 0 (by omega) (by omega) (by omega)
    have fb1 := fz (w.heap.size + 1) 1 (by omega) (by omega) (by omega)
    have fr0 := fz (w.heap.size + 1 + 1) 0 (by omega) (by omega) (by omega)
    have fr1 := fz (w.heap.size + 1 + 1) 1 (by omega) (by omega) (by omega)
    have HI := Lib.hid hI
    have HN := Lib.hid hN
    by_cases hY : gk = 0
    · subst hY
      have hz : mb = 0 := by rw [hmb, bitsN_zero]; rfl
      subst hz
      have hg : X = Nat.gcd X0 Y0 := by have := hN.g; rw [Nat.gcd_zero_right] at this; exact this
      have HG := Lib.hid hg
      clear hmb ba bb fz bel hI hN hg
      go_wp2
      have hsl : SL wr (.slice qa ma da) (bitsN ((Nat.gcd X0 Y0 : Nat) : Int).natAbs) := by rw [Int.natAbs_natCast, ← HG.out]; exact HI.out.ba
      have hbg := big_stored (r := w.heap.size + 1 + 1) (z := ((Nat.gcd X0 Y0 : Nat) : Int)) (b := false) (by rw [decide_eq_false (by omega)]) hsl r0 r1
      have hl : w.heap.size ≤ w.heap.size + 1 + 1 := by omega
      exact bodyPost_ret (v := .agg #[.bool false, .slice qa ma da]) (by simp [results, Tryz.results69, go_sem, r0, r1]) rfl ⟨⟨_, rfl, hbg⟩, Below.setCell (Below.setCell HI.out.bel hl _) hl _⟩
    · have hpos : 0 < gk := by omega
      have hz : 0 < mb := by
        rw [hmb]
        have := bitsN_len_pos (z := (gk : Int))
        rw [Int.natAbs_natCast] at this
        exact this.2 (by omega)
      have HPt := Lib.hid (parts_main X gk qa qb da db ma mb wr ba.len.2 bb.len.2 ba.len.1 hmb hpos (by rw [ba.len.1]; have := hN.lx; omega) (by rw [hmb]; have := hN.ly; omega) false false)
      clear hmb ba bb fz bel hI hN
      go_wp2_with fail
      refine HPt.out.mono ?_
      rintro e w1 ⟨v1, v2, rfl, hv1, hv2, hb1⟩
      obtain ⟨ua, un, uc, rfl, hu⟩ := bigv_nat hv1
      obtain ⟨ra, rn, rc, rfl, hr⟩ := bigv_nat hv2
      have HI1 := Lib.hid (HI.out.keep hb1)
      have HR1 := Lib.hid hr
      clear hb1 hv1 hv2 hu hr a0 a1 b0 b1 r0 r1 fa0 fa1 fb0 fb1 fr0 fr1
      go_upto_region 5 with fail
      have hkb : Below w1.heap.size w1 ((w1.alloc (.cells #[.bool false, .slice ua un uc] 88)).alloc (.cells #[.bool false, .slice ra rn rc] 88)) := Below.alloc (Below.alloc (Below.refl _ _) (Nat.le_refl _) _) (by simp) _
      have HI2 := Lib.hid (HI1.out.keep hkb)
      have HR2 := Lib.hid (HR1.out.keep hkb)
      have z1 : (w1.alloc (.cells #[.bool false, .slice ua un uc] 88)).heap.size = w1.heap.size + 1 := by simp
      have t0 : ((w1.alloc (.cells #[.bool false, .slice ua un uc] 88)).alloc (.cells #[.bool false, .slice ra rn rc] 88)).cell? ⟨w1.heap.size + 1, 0, none⟩ = some (.bool false) := by rw [← z1]; exact new_at rfl
      have t1 : ((w1.alloc (.cells #[.bool false, .slice ua un uc] 88)).alloc (.cells #[.bool false, .slice ra rn rc] 88)).cell? ⟨w1.heap.size + 1, 1, none⟩ = some (.slice ra rn rc) := by rw [← z1]; exact new_at rfl
      have hq : w.heap.size + 3 ≤ w1.heap.size := HI1.out.sz
      clear hkb HI1 HR1 z1
      generalize ((w1.alloc (.cells #[.bool false, .slice ua un uc] 88)).alloc (.cells #[.bool false, .slice ra rn rc] 88)) = W at *
      generalize w1.heap.size = Q at *
      obtain ⟨a0, a1, b0, b1, r0, r1, fz, ba, bb, bel, sz⟩ := id HI2.out
      have fa0 := fz w.heap.size 0 (by omega) (by omega) (by omega)
      have fa1 := fz w.heap.size 1 (by omega) (by omega) (by omega)
      have fb0 := fz (w.heap.size + 1) 0 (by omega) (by omega) (by omega)
      have fb1 := fz (w.heap.size + 1) 1 (by omega) (by omega) (by omega)
      have n1 : Q + 1 ≠ w.heap.size := by omega
      have n2 : Q + 1 ≠ w.heap.size + 1 := by omega
      clear ba bb bel fz
      go_wp2
      go_roundg (X % gk)
      case measure => exact Nat.mod_lt _ hpos
      case rel => exact ⟨gk, _, _, _, _, _, _, HI2.out.next HR2.out, HN.out.next hpos⟩

/-- The greatest divisor of two numbers, without signs. -/
theorem com_any (x y : Int) (v v' : Value) (w : World) (h : BigV w v x) (h' : BigV w v' y) (lx : x.natAbs < 2 ^ 900) (ly : y.natAbs < 2 ^ 900) :
    Calls Tryz.prog 69 #[v, v'] w fun e w' => (∃ v, e = .returned v ∧ BigV w' v ((Int.gcd x y : Nat) : Int)) ∧ Below w.heap.size w w' := by
  obtain ⟨s, rfl, hs⟩ := h
  obtain ⟨s', rfl, hs'⟩ := h'
  obtain ⟨a, c, rfl, g1, g2, g3⟩ := hs
  obtain ⟨b, d, rfl, k1, k2, k3⟩ := hs'
  exact com_main x.natAbs y.natAbs a b _ c _ d w _ _ ⟨a, c, rfl, g1, g2, g3⟩ ⟨b, d, rfl, k1, k2, k3⟩ ⟨rfl, bitsN_len _ _ lx, bitsN_len _ _ ly⟩

end Go.Proofs.YtgeneoamngfomaaGreatDoor

namespace Go.Proofs.YtgeneoamngfomaaGreatDoor
open Go.RowKit
set_option linter.unusedVariables false

/-- A number through another one. -/
def BigQ (w : World) (v : Value) (n d : Int) : Prop := ∃ s t, v = .agg #[.bool (decide (n < 0)), s, .bool (decide (d < 0)), t] ∧ SL w s (bitsN n.natAbs) ∧ SL w t (bitsN d.natAbs)
theorem BigQ.keep {w w' : World} {v : Value} {n d : Int} (h : BigQ w v n d) (hb : Below w.heap.size w w') : BigQ w' v n d := by
  obtain ⟨s, t, e, h1, h2⟩ := h
  exact ⟨s, t, e, h1.keep hb, h2.keep hb⟩
theorem BigQ.parts {w : World} {v : Value} {n d : Int} (h : BigQ w v n d) : ∃ s a k c s' a' k' c', v = .agg #[.bool s, .slice a k c, .bool s', .slice a' k' c'] ∧ BigV w (.agg #[.bool s, .slice a k c]) n ∧ BigV w (.agg #[.bool s', .slice a' k' c']) d ∧ s = decide (n < 0) ∧ s' = decide (d < 0) := by
  obtain ⟨s, t, rfl, h1, h2⟩ := h
  obtain ⟨a, c, rfl, _⟩ := id h1
  obtain ⟨a', c', rfl, _⟩ := id h2
  exact ⟨_, a, _, c, _, a', _, c', rfl, ⟨_, rfl, h1⟩, ⟨_, rfl, h2⟩, rfl, rfl⟩
theorem BigQ.of {w : World} {s s' : Bool} {x x' : Value} {n d : Int} (h : BigV w (.agg #[.bool s, x]) n) (h' : BigV w (.agg #[.bool s', x']) d) : BigQ w (.agg #[.bool s, x, .bool s', x']) n d := by
  obtain ⟨e1, e2⟩ := bigv_sign h
  obtain ⟨e3, e4⟩ := bigv_sign h'
  exact ⟨_, _, by rw [e1, e3], e2, e4⟩

theorem four_stored {w : World} {Q : Nat} {v : Value} {z : Int} (h : BigV w v z) {s0 s1 : Bool} {a0 a1 : Option Addr} {n0 n1 c0 c1 : Nat} (h0 : w.cell? ⟨Q, 0, none⟩ = some (.bool s0)) (h1 : w.cell? ⟨Q, 1, none⟩ = some (.slice a0 n0 c0)) (h2 : w.cell? ⟨Q, 2, none⟩ = some (.bool s1)) (h3 : w.cell? ⟨Q, 3, none⟩ = some (.slice a1 n1 c1)) (x0 x1 x2 x3 : Value) :
    BigV ((((w.setCell ⟨Q, 0, none⟩ x0).setCell ⟨Q, 1, none⟩ x1).setCell ⟨Q, 2, none⟩ x2).setCell ⟨Q, 3, none⟩ x3) v z := by
  have co : ∀ {w : World} {o o' : Nat} {v : Value}, o ≠ o' → (w.setCell ⟨Q, o, none⟩ v).cell? ⟨Q, o', none⟩ = w.cell? ⟨Q, o', none⟩ := fun {w o o' v} h => cell_other (by intro e; injection e with e1 e2; exact h e2)
  refine (((h.set h0 (by intro n; simp) _).set (u := .slice a0 n0 c0) ?_ (by intro n; simp) _).set (u := .bool s1) ?_ (by intro n; simp) _).set (u := .slice a1 n1 c1) ?_ (by intro n; simp) _
  · rw [co (by decide)]; exact h1
  · rw [co (by decide), co (by decide)]; exact h2
  · rw [co (by decide), co (by decide), co (by decide)]; exact h3
theorem four_below {w wx : World} {Q : Nat} (h : Below w.heap.size w wx) (hQ : w.heap.size ≤ Q) (x0 x1 x2 x3 : Value) : Below w.heap.size w ((((wx.setCell ⟨Q, 0, none⟩ x0).setCell ⟨Q, 1, none⟩ x1).setCell ⟨Q, 2, none⟩ x2).setCell ⟨Q, 3, none⟩ x3) :=
  Below.setCell (Below.setCell (Below.setCell (Below.setCell h hQ _) hQ _) hQ _) hQ _

set_option maxHeartbeats 4000000 in
set_option maxRecDepth 100000 in
theorem rof_any (n d : Int) (w : World) (n0 : -9223372036854775808 ≤ n) (n1 : n ≤ 9223372036854775807) (d0 : -9223372036854775808 ≤ d) (d1 : d ≤ 9223372036854775807) :
    Calls Tryz.prog 39 #[.agg #[.int .i64 n, .int .i64 d]] w fun e w' => (∃ v, e = .returned v ∧ BigQ w' v n d) ∧ Below w.heap.size w w' := by
  have HOn := Lib.hid (fun w => of_any n w n0 n1)
  have HOd := Lib.hid (fun w => of_any d w d0 d1)
  clear n0 n1 d0 d1
  go_enter Tryz.func39, Tryz.ntmps39
  go_wp2_with fail
  have HK := Lib.hid (HeldV.two w [.int .i64 n, .int .i64 d] [.bool false, .slice none 0 0, .bool false, .slice none 0 0] 58 98)
  generalize ((w.alloc (.cells #[.int .i64 n, .int .i64 d] 58)).alloc (.cells #[.bool false, .slice none 0 0, .bool false, .slice none 0 0] 98)) = W at HK ⊢
  obtain ⟨x0, _⟩ := HK.out.get 1 rfl 0 rfl
  obtain ⟨x1, _⟩ := HK.out.get 1 rfl 1 rfl
  go_region_held3 (fun w' => w'.cell? ⟨w.heap.size, 0, none⟩ = some (.int .i64 n) ∧ w'.cell? ⟨w.heap.size, 1, none⟩ = some (.int .i64 d)) (first | go_keep | exact ⟨x0', x1'⟩ | exact ⟨x0'', x1''⟩)
    (first | (go_at_call 33; (with_reducible refine (HOn.out _).mono ?_); rintro e w1 ⟨⟨v1, rfl, hv1⟩, hb1⟩; obtain ⟨s1, a1, k1, c1, hve, hv1'⟩ := hv1.shape; have HV1 := Lib.hid hv1'; have HK1 := Lib.hid (HK.out.keep (undrewB hb1)); obtain ⟨x0', _⟩ := HK1.out.get 1 rfl 0 rfl; obtain ⟨x1', _⟩ := HK1.out.get 1 rfl 1 rfl; subst hve; clear hv1 hv1' hb1) | (go_at_call 33; (with_reducible refine (HOd.out _).mono ?_); rintro e w2 ⟨⟨v2, rfl, hv2⟩, hb2⟩; obtain ⟨s2, a2, k2, c2, hve2, hv2'⟩ := hv2.shape; have HV2 := Lib.hid hv2'; have HV12 := Lib.hid (HV1.out.keep hb2); have HK2 := Lib.hid (HK1.out.keep hb2); obtain ⟨x0'', _⟩ := HK2.out.get 1 rfl 0 rfl; obtain ⟨x1'', _⟩ := HK2.out.get 1 rfl 1 rfl; obtain ⟨r0, g0⟩ := HK2.out.get 0 rfl 0 rfl; obtain ⟨r1, g1⟩ := HK2.out.get 0 rfl 1 rfl; obtain ⟨r2, g2⟩ := HK2.out.get 0 rfl 2 rfl; obtain ⟨r3, g3⟩ := HK2.out.get 0 rfl 3 rfl; subst hve2; clear hv2 hv2' hb2))
  go_wp2
  exact bodyPost_ret (v := .agg #[.bool s1, .slice a1 k1 c1, .bool s2, .slice a2 k2 c2]) (by simp [results, Tryz.results39, go_sem, r0, r1, r2, r3]) rfl ⟨⟨_, rfl, BigQ.of (four_stored HV12.out r0 r1 r2 r3 _ _ _ _) (four_stored HV2.out r0 r1 r2 r3 _ _ _ _)⟩, four_below HK2.out.bel (by omega) _ _ _ _⟩

end Go.Proofs.YtgeneoamngfomaaGreatDoor

namespace Go.Proofs.YtgeneoamngfomaaGreatDoor
open Go.RowKit
set_option linter.unusedVariables false

theorem parts_any (x y : Int) (v v' : Value) (w : World) (h : BigV w v x) (h' : BigV w v' y) (hy : y ≠ 0) (lx : x.natAbs < 2 ^ 1000) (ly : y.natAbs < 2 ^ 1000) :
    Calls Tryz.prog 61 #[v, v'] w (PartsPost x.natAbs y.natAbs w) := by
  obtain ⟨a, c, rfl, g⟩ := h.open
  obtain ⟨b, d, rfl, g'⟩ := h'.open
  exact parts_main x.natAbs y.natAbs a b c d _ _ w g.1 g'.1 rfl rfl (by omega) (bitsN_len _ _ lx) (bitsN_len _ _ ly) _ _

theorem fit_parts (n d : Int) (hd : d ≠ 0) : fitV (rat n d) = if 9223372036854775807 < absI n / ((Int.gcd n d : Nat) : Int) ∨ 9223372036854775807 < absI d / ((Int.gcd n d : Nat) : Int) then tup 0 0 11 else tup (sgn (decide (n < 0) != decide (d < 0)) (absI n / ((Int.gcd n d : Nat) : Int))) (absI d / ((Int.gcd n d : Nat) : Int)) 0 := by
  obtain ⟨hnum, hden⟩ := of_parts n d hd
  have hg : 0 < ((Int.gcd n d : Nat) : Int) := by have := Int.gcd_pos_of_ne_zero_right n hd; omega
  generalize ((Int.gcd n d : Nat) : Int) = g at *
  have pn0 := (quo_bd (a := absI n) (by unfold absI; omega) hg).1
  have pd0 := (quo_bd (a := absI d) (by unfold absI; omega) hg).1
  unfold fitV
  by_cases h : 9223372036854775807 < absI n / g ∨ 9223372036854775807 < absI d / g
  · rw [if_pos h]
    have hf : fitsR (rat n d) = false := by
      unfold fitsR; rw [hnum, hden]; apply decide_eq_false
      rintro ⟨h1, h2, h3⟩
      rcases h with h | h
      · generalize (decide (n < 0) != decide (d < 0)) = sg at h1 h2
        cases sg
        · have : absI n / g ≤ 9223372036854775807 := h2
          omega
        · have : -9223372036854775807 ≤ -(absI n / g) := h1
          omega
      · omega
    obtain ⟨e1, e2, e3⟩ := fit_out hf
    rw [e1, e2, e3]
  · rw [if_neg h]
    have hf : fitsR (rat n d) = true := by
      unfold fitsR; rw [hnum, hden]; apply decide_eq_true
      unfold sgn
      refine ⟨?_, ?_, by omega⟩
      · split <;> omega
      · split <;> omega
    obtain ⟨e1, e2, e3⟩ := fit_in hf
    rw [e1, e2, e3, hnum, hden]

theorem nat_quo (n : Int) (g : Nat) : ((n.natAbs / g : Nat) : Int) = absI n / (g : Int) := by unfold absI; rw [Int.natCast_ediv]
theorem gcd_lim {k : Nat} {n d : Int} (hd : d ≠ 0) (l : d.natAbs < 2 ^ k) : ((Int.gcd n d : Nat) : Int).natAbs < 2 ^ k := by
  rw [Int.natAbs_natCast]
  exact Nat.lt_of_le_of_lt (Nat.gcd_le_right _ (by omega)) l
theorem quo_lim {k x y : Nat} (l : x < 2 ^ k) : ((x / y : Nat) : Int).natAbs < 2 ^ k := by
  rw [Int.natAbs_natCast]
  exact Nat.lt_of_le_of_lt (Nat.div_le_self _ _) l

/-- A number that is not below nought: does it fit? -/
def fitB (z : Nat) : Bool := decide ((z : Int) ≤ 9223372036854775807)
def fitM (z : Nat) : Int := if fitB z then (z : Int) else 0
theorem rintN_any (z : Nat) (v : Value) (w : World) (h : BigV w v (z : Int)) (hz : (z : Int).natAbs < 2 ^ 1000) :
    Calls Tryz.prog 31 #[v] w fun e w' => e = .returned (.tuple #[.int .i64 (fitM z), .bool (fitB z)]) ∧ Below w.heap.size w w' := by
  refine (rint_any (z : Int) v w h hz).mono ?_
  rintro e w' ⟨h1, h2, hb⟩
  refine ⟨?_, hb⟩
  unfold fitM fitB
  by_cases g : (z : Int) ≤ 9223372036854775807
  · rw [decide_eq_true g]; exact h1 ⟨by omega, g⟩
  · rw [decide_eq_false g]; exact h2 (fun k => g k.2)

set_option maxHeartbeats 8000000 in
set_option maxRecDepth 100000 in
theorem rratio_any (n d : Int) (v : Value) (w : World) (h : BigQ w v n d) (hd : d ≠ 0) (ln : n.natAbs < 2 ^ 900) (ld : d.natAbs < 2 ^ 900) :
    Calls Tryz.prog 37 #[v] w fun e w' => e = .returned (fitV (rat n d)) ∧ Below w.heap.size w w' := by
  obtain ⟨sn, an, kn, cn, sd, ad, kd, cd, rfl, hn', hd', hsn, hsd⟩ := h.parts
  have HSn := Lib.hid hsn
  have HSd := Lib.hid hsd
  have hgz : ((Int.gcd n d : Nat) : Int) ≠ 0 := by have := Int.gcd_pos_of_ne_zero_right n hd; omega
  have HF := Lib.hid (fit_parts n d hd)
  have ln' : n.natAbs < 2 ^ 1000 := lim_up (k := 900) (m := 1000) (by decide) ln
  have ld' : d.natAbs < 2 ^ 1000 := lim_up (k := 900) (m := 1000) (by decide) ld
  have lg' : ((Int.gcd n d : Nat) : Int).natAbs < 2 ^ 1000 := gcd_lim (k := 1000) hd ld'
  have HC := Lib.hid (fun v v' w (h : BigV w v n) (h' : BigV w v' d) => com_any n d v v' w h h' ln ld)
  have HP1 := Lib.hid (fun v v' w (h : BigV w v n) (h' : BigV w v' ((Int.gcd n d : Nat) : Int)) => parts_any n _ v v' w h h' hgz ln' lg')
  have HP2 := Lib.hid (fun v v' w (h : BigV w v d) (h' : BigV w v' ((Int.gcd n d : Nat) : Int)) => parts_any d _ v v' w h h' hgz ld' lg')
  rw [Int.natAbs_natCast] at HP1 HP2
  have HI1 := Lib.hid (fun v w (h : BigV w v ((n.natAbs / Int.gcd n d : Nat) : Int)) => rintN_any _ v w h (quo_lim (k := 1000) ln'))
  have HI2 := Lib.hid (fun v w (h : BigV w v ((d.natAbs / Int.gcd n d : Nat) : Int)) => rintN_any _ v w h (quo_lim (k := 1000) ld'))
  have HB := Lib.hid hn'
  have HD := Lib.hid hd'
  rw [← nat_quo, ← nat_quo] at HF
  have hp1 : 0 ≤ ((n.natAbs / Int.gcd n d : Nat) : Int) := Int.natCast_nonneg _
  have hp2 : 0 ≤ ((d.natAbs / Int.gcd n d : Nat) : Int) := Int.natCast_nonneg _
  generalize n.natAbs % Int.gcd n d = n4 at *
  generalize d.natAbs % Int.gcd n d = n5 at *
  clear h hn' hd' hsn hsd hgz ln ld hd ln' ld' lg'
  go_enter Tryz.func37, Tryz.ntmps37
  go_wp2_with fail
  have K0 := Lib.hid (HeldV.two w [.bool sn, .slice an kn cn, .bool sd, .slice ad kd cd] [.int .i64 0, .int .i64 0] 98 58)
  refine (HC.out _ _ _ (HB.out.keep K0.out.bel) (HD.out.keep K0.out.bel)).mono ?_
  rintro e w1 ⟨⟨v1, rfl, hv1⟩, hb1⟩
  obtain ⟨s1, a1, k1, c1, rfl, hv1'⟩ := hv1.shape
  have K1 := Lib.hid (K0.out.keep hb1)
  have G1 := Lib.hid hv1'
  clear hb1 hv1 hv1' K0
  obtain ⟨x0, _⟩ := K1.out.get 1 rfl 0 rfl
  obtain ⟨x1, _⟩ := K1.out.get 1 rfl 1 rfl
  have lx := K1.out.lt 1 rfl
  go_wp2_with fail
  have K2 := Lib.hid (K1.out.push [.bool s1, .slice a1 k1 c1] 88)
  have kb : Below w1.heap.size w1 (w1.alloc (.cells #[.bool s1, .slice a1 k1 c1] 88)) := Below.alloc (Below.refl _ _) (Nat.le_refl _) _
  refine (HP1.out _ _ _ (HB.out.keep K2.out.bel) (G1.out.keep kb)).mono ?_
  rintro e w2 ⟨v2, v3, rfl, hv2, hv3, hb2⟩
  obtain ⟨s2, a2, k2, c2, rfl, hv2'⟩ := hv2.shape
  obtain ⟨s3, a3, k3, c3, rfl, hv3'⟩ := hv3.shape
  have K3 := Lib.hid (K2.out.keep hb2)
  have G2 := Lib.hid ((G1.out.keep kb).keep hb2)
  have N2 := Lib.hid hv2'
  clear hb2 hv2 hv3 hv2' hv3' kb K1 K2 G1 x0 x1 lx
  obtain ⟨y0, _⟩ := K3.out.get 0 rfl 0 rfl
  obtain ⟨y1, _⟩ := K3.out.get 0 rfl 1 rfl
  obtain ⟨x2, _⟩ := K3.out.get 2 rfl 2 rfl
  obtain ⟨x3, _⟩ := K3.out.get 2 rfl 3 rfl
  have lx := K3.out.lt 2 rfl
  have ly := K3.out.lt 0 rfl
  go_wp2_with fail
  have K4 := Lib.hid ((K3.out.push [.bool s2, .slice a2 k2 c2] 88).push [.bool s3, .slice a3 k3 c3] 88)
  have kb : Below w2.heap.size w2 ((w2.alloc (.cells #[.bool s2, .slice a2 k2 c2] 88)).alloc (.cells #[.bool s3, .slice a3 k3 c3] 88)) := Below.alloc (Below.alloc (Below.refl _ _) (Nat.le_refl _) _) (by simp) _
  refine (HP2.out _ _ _ (HD.out.keep K4.out.bel) (G2.out.keep kb)).mono ?_
  rintro e w3 ⟨v4, v5, rfl, hv4, hv5, hb3⟩
  obtain ⟨s4, a4, k4, c4, rfl, hv4'⟩ := hv4.shape
  obtain ⟨s5, a5, k5, c5, rfl, hv5'⟩ := hv5.shape
  have K5 := Lib.hid (K4.out.keep hb3)
  have N3 := Lib.hid ((N2.out.keep kb).keep hb3)
  have D3 := Lib.hid hv4'
  clear hb3 hv4 hv5 hv4' hv5' kb K3 K4 G2 N2 x2 x3 y0 y1 lx ly
  obtain ⟨y0, _⟩ := K5.out.get 1 rfl 0 rfl
  obtain ⟨y1, _⟩ := K5.out.get 1 rfl 1 rfl
  have ly := K5.out.lt 1 rfl
  go_wp2_with fail
  have K6 := Lib.hid ((K5.out.push [.bool s4, .slice a4 k4 c4] 88).push [.bool s5, .slice a5 k5 c5] 88)
  have kb : Below w3.heap.size w3 ((w3.alloc (.cells #[.bool s4, .slice a4 k4 c4] 88)).alloc (.cells #[.bool s5, .slice a5 k5 c5] 88)) := Below.alloc (Below.alloc (Below.refl _ _) (Nat.le_refl _) _) (by simp) _
  refine (HI1.out _ _ (N3.out.keep kb)).mono ?_
  rintro e w4 ⟨rfl, hb4⟩
  have K7 := Lib.hid (K6.out.keep hb4)
  have D4 := Lib.hid ((D3.out.keep kb).keep hb4)
  clear hb4 kb K5 K6 N3 D3 y0 y1 ly
  obtain ⟨y0, _⟩ := K7.out.get 1 rfl 0 rfl
  obtain ⟨y1, _⟩ := K7.out.get 1 rfl 1 rfl
  go_wp2_with fail
  refine (HI2.out _ _ D4.out).mono ?_
  rintro e w5 ⟨rfl, hb5⟩
  have K8 := Lib.hid (K7.out.keep hb5)
  clear hb5 K7 D4 y0 y1
  obtain ⟨x0, _⟩ := K8.out.get 6 rfl 0 rfl
  obtain ⟨x2, _⟩ := K8.out.get 6 rfl 2 rfl
  obtain ⟨r0, f0⟩ := K8.out.get 5 rfl 0 rfl
  obtain ⟨r1, f1⟩ := K8.out.get 5 rfl 1 rfl
  have hl : w.heap.size ≤ w.heap.size + 1 := by omega
  have HF' := HF.out
  clear HF HI1 HI2 HP1 HP2 HC HB HD
  generalize n.natAbs / Int.gcd n d = N at *
  generalize d.natAbs / Int.gcd n d = D at *
  have HFin := Lib.hid HF'
  clear HF'
  have eN : fitM N = if fitB N then (N : Int) else 0 := rfl
  have eD : fitM D = if fitB D then (D : Int) else 0 := rfl
  have gN : fitB N = decide ((N : Int) ≤ 9223372036854775807) := rfl
  have gD : fitB D = decide ((D : Int) ≤ 9223372036854775807) := rfl
  have HgN := Lib.hid gN
  have HgD := Lib.hid gD
  clear gN gD
  generalize fitM N = mN at *
  generalize fitM D = mD at *
  cases hbN : fitB N
  · rw [hbN] at HgN eN
    have hov := of_decide_eq_false HgN.out.symm
    have HE := Lib.hid (HFin.out.trans (if_pos (Or.inl (by omega))))
    clear hbN hov eN eD HFin HgN HgD
    go_wp2_with fail
    exact bodyPost_ret (v := tup 0 0 11) (by simp [results, Tryz.results37, go_sem, tup, r0, r1]) rfl ⟨by rw [HE.out], Below.setCell (Below.setCell K8.out.bel hl _) hl _⟩
  · rw [hbN] at HgN eN
    have h1 := of_decide_eq_true HgN.out.symm
    cases hbD : fitB D
    · rw [hbD] at HgD eD
      have hov := of_decide_eq_false HgD.out.symm
      have HE := Lib.hid (HFin.out.trans (if_pos (Or.inr (by omega))))
      clear hbN hbD hov eN eD HFin HgN HgD
      go_wp2_with fail
      exact bodyPost_ret (v := tup 0 0 11) (by simp [results, Tryz.results37, go_sem, tup, r0, r1]) rfl ⟨by rw [HE.out], Below.setCell (Below.setCell K8.out.bel hl _) hl _⟩
    · rw [hbD] at HgD eD
      have h2 := of_decide_eq_true HgD.out.symm
      rw [if_pos rfl] at eN eD
      subst eN; subst eD
      have HE := Lib.hid (HFin.out.trans (if_neg (by omega)))
      have hb0 := HSn.out
      have hb1 := HSd.out
      rw [← hb0, ← hb1] at HE
      clear hbN hbD HFin HgN HgD hb0 hb1 HSn HSd
      by_cases hs : (sn == sd) = true
      · have e1 : sgn (sn != sd) (N : Int) = N := by rw [show (sn != sd) = false by rw [bne, hs]; rfl]; rfl
        rw [e1] at HE
        clear e1
        go_wp2_with fail
        exact bodyPost_ret (v := tup N D 0) (by simp [results, Tryz.results37, go_sem, tup, r0, r1]) rfl ⟨by rw [HE.out], Below.setCell (Below.setCell K8.out.bel hl _) hl _⟩
      · have hs' : (sn == sd) = false := by simpa using hs
        have e1 : sgn (sn != sd) (N : Int) = -N := by rw [show (sn != sd) = true by rw [bne, hs']; rfl]; rfl
        rw [e1] at HE
        clear e1 hs
        go_wp2_with fail
        exact bodyPost_ret (v := tup (-N) D 0) (by simp [results, Tryz.results37, go_sem, tup, r0, r1]) rfl ⟨by rw [HE.out], Below.setCell (Below.setCell K8.out.bel hl _) hl _⟩

end Go.Proofs.YtgeneoamngfomaaGreatDoor

namespace Go.Proofs.YtgeneoamngfomaaGreatDoor
open Go.RowKit
set_option linter.unusedVariables false

theorem int_lim900 {n : Int} (b0 : -9223372036854775808 ≤ n) (b1 : n ≤ 9223372036854775807) : n.natAbs < 2 ^ 900 := pow_big 900 (by decide) (by omega)

theorem chk_of {n d : Int} (hd : d ≠ 0) (n0 : -9223372036854775808 ≤ n) (n1 : n ≤ 9223372036854775807) (d1 : d ≤ 9223372036854775807) :
    (chkE n d = 0 ∧ rE (rat n d) = 0 ∧ rN (rat n d) = n ∧ rD (rat n d) = d) ∨ (chkE n d = 13 ∧ (rE (rat n d) ≠ 0 ∨ (rN (rat n d) == n && rD (rat n d) == d) = false)) := by
  by_cases h : chkE n d = 0
  · left
    have ok := chkE_zero h n0 n1 d1
    obtain ⟨e1, e2, e3⟩ := fit_in (fitsR_ok ok)
    exact ⟨h, e3, e1.trans ok.num, e2.trans ok.den⟩
  · right
    have h13 : chkE n d = 13 := by
      rcases chkE_cases n d with g | g | g
      · exact absurd g h
      · unfold chkE at g; rw [if_neg hd] at g; split at g <;> cases g
      · exact g
    refine ⟨h13, ?_⟩
    by_cases hf : fitsR (rat n d) = true
    · right
      obtain ⟨e1, e2, e3⟩ := fit_in hf
      by_cases g : (rN (rat n d) == n && rD (rat n d) == d) = true
      · exfalso
        rw [Bool.and_eq_true, beq_iff_eq, beq_iff_eq] at g
        have ok := okR_of hf
        rw [← e1, ← e2, g.1, g.2] at ok
        exact h (chkE_ok ok)
      · simpa using g
    · left
      rw [(fit_out (show fitsR (rat n d) = false by simpa using hf)).2.2]; decide

set_option maxHeartbeats 4000000 in
set_option maxRecDepth 100000 in
theorem rcheck_any (n d : Int) (w : World) (n0 : -9223372036854775808 ≤ n) (n1 : n ≤ 9223372036854775807) (d0 : -9223372036854775808 ≤ d) (d1 : d ≤ 9223372036854775807) :
    Calls Tryz.prog 58 #[.agg #[.int .i64 n, .int .i64 d]] w fun e w' => e = .returned (.int .i64 (chkE n d)) ∧ Below w.heap.size w w' := by
  by_cases hd : d = 0
  · subst hd
    have e : chkE n 0 = 12 := rfl
    rw [e]
    clear e
    go_enter Tryz.func58, Tryz.ntmps58
    go_wp2
    go_ret
    exact ⟨rfl, Below.alloc (Below.refl _ _) (Nat.le_refl _) _⟩
  · have HO := Lib.hid (fun w => rof_any n d w n0 n1 d0 d1)
    have HR := Lib.hid (fun v w h => rratio_any n d v w h hd (int_lim900 n0 n1) (int_lim900 d0 d1))
    have hc := chk_of hd n0 n1 d1
    have hz : (d == 0) = false := by simpa using hd
    unfold fitV tup at HR
    generalize chkE n d = ce at *
    generalize rN (rat n d) = x at *
    generalize rD (rat n d) = y at *
    generalize rE (rat n d) = er at *
    clear hd n0 n1 d0 d1
    have HCs := Lib.hid hc
    clear hc
    go_enter Tryz.func58, Tryz.ntmps58
    go_wp2_with fail
    refine (HO.out _).mono ?_
    rintro e w1 ⟨⟨v1, rfl, hv1⟩, hb1⟩
    have K1 := Lib.hid (((HeldV.nil w).push [.int .i64 n, .int .i64 d] 58).keep hb1)
    have Q1 := Lib.hid hv1
    clear hv1 hb1
    go_wp2_with fail
    refine (HR.out _ _ Q1.out).mono ?_
    rintro e w2 ⟨rfl, hb2⟩
    have K2 := Lib.hid (K1.out.keep hb2)
    clear hb2 K1 Q1
    obtain ⟨x0, _⟩ := K2.out.get 0 rfl 0 rfl
    obtain ⟨x1, _⟩ := K2.out.get 0 rfl 1 rfl
    have lx := K2.out.lt 0 rfl
    have K3 := Lib.hid (K2.out.push [.int .i64 x, .int .i64 y] 58)
    rcases HCs.out with ⟨e1, e2, e3, e4⟩ | ⟨e1, e2 | e2⟩
    · subst e1; subst e2; subst e3; subst e4
      go_wp2_with fail
      go_ret
      exact ⟨rfl, K3.out.bel⟩
    · subst e1
      have q1 : (er != 0) = true := by simpa using e2
      have q2 : (er == 0) = false := by simpa using e2
      clear e2
      go_wp2_with fail
      go_ret
      exact ⟨rfl, K3.out.bel⟩
    · subst e1
      by_cases g : er = 0
      · subst g
        by_cases gx : x = n
        · subst gx
          have gy : (y == d) = false := by simpa using e2
          clear e2
          go_wp2_with fail
          go_ret
          exact ⟨rfl, K3.out.bel⟩
        · have gy : (x == n) = false := by simpa using gx
          clear e2 gx
          go_wp2_with fail
          go_ret
          exact ⟨rfl, K3.out.bel⟩
      · have q1 : (er != 0) = true := by simpa using g
        have q2 : (er == 0) = false := by simpa using g
        clear g e2
        go_wp2_with fail
        go_ret
        exact ⟨rfl, K3.out.bel⟩

end Go.Proofs.YtgeneoamngfomaaGreatDoor

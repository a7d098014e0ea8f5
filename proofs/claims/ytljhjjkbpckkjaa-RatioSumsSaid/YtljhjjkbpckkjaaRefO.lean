/-
  chattelref02's common: the greatest divisor.
-/
import Derived.Test.YtljhjjkbpckkjaaRefN
import Derived.Deep.LoopGhost
namespace Go.Proofs.Ytljhjjkbpckkjaa
open Go.RowKit
set_option linter.unusedVariables false

/-- The cells that common keeps: two numbers and its result. -/
structure ComI (w wx : World) (X Y : Nat) (pa : Option Addr) (na ca : Nat) (pb : Option Addr) (nb cb : Nat) : Prop where
  a0 : wx.cell? ⟨w.heap.size, 0, none⟩ = some (.bool false)
  a1 : wx.cell? ⟨w.heap.size, 1, none⟩ = some (.slice pa na ca)
  b0 : wx.cell? ⟨w.heap.size + 1, 0, none⟩ = some (.bool false)
  b1 : wx.cell? ⟨w.heap.size + 1, 1, none⟩ = some (.slice pb nb cb)
  r0 : wx.cell? ⟨w.heap.size + 1 + 1, 0, none⟩ = some (.bool false)
  r1 : wx.cell? ⟨w.heap.size + 1 + 1, 1, none⟩ = some (.slice none 0 0)
  fz : ∀ b i, w.heap.size ≤ b → b < w.heap.size + 3 → i < 2 → wx.frozen? ⟨b, i, none⟩ = false
  ba : SL wx (.slice pa na ca) (bitsN X)
  bb : SL wx (.slice pb nb cb) (bitsN Y)
  bel : Below w.heap.size w wx
  sz : w.heap.size + 3 ≤ wx.heap.size
theorem ComI.keep {w wx w1 : World} {X Y : Nat} {pa : Option Addr} {na ca : Nat} {pb : Option Addr} {nb cb : Nat} (h : ComI w wx X Y pa na ca pb nb cb) (hb : Below wx.heap.size wx w1) : ComI w w1 X Y pa na ca pb nb cb := by
  have hs := h.sz
  have hs1 := hb.size
  have hc : ∀ b i, b < w.heap.size + 3 → w1.cell? ⟨b, i, none⟩ = wx.cell? ⟨b, i, none⟩ := fun b i hb' => hb.cell (p := ⟨b, i, none⟩) (show b < wx.heap.size by omega)
  have hf : ∀ b i, b < w.heap.size + 3 → w1.frozen? ⟨b, i, none⟩ = wx.frozen? ⟨b, i, none⟩ := fun b i hb' => hb.frozen (p := ⟨b, i, none⟩) (show b < wx.heap.size by omega)
  exact ⟨(hc _ _ (by omega)).trans h.a0, (hc _ _ (by omega)).trans h.a1, (hc _ _ (by omega)).trans h.b0, (hc _ _ (by omega)).trans h.b1, (hc _ _ (by omega)).trans h.r0, (hc _ _ (by omega)).trans h.r1, fun b i g1 g2 g3 => (hf b i g2).trans (h.fz b i g1 g2 g3), h.ba.keep hb, h.bb.keep hb, h.bel.trans (hb.mono (by omega)), by omega⟩
/-- A round's stores. -/
theorem ComI.next {w wx : World} {X Y R : Nat} {pa : Option Addr} {na ca : Nat} {pb : Option Addr} {nb cb : Nat} {pr : Option Addr} {nr cr : Nat} (h : ComI w wx X Y pa na ca pb nb cb) (hr : SL wx (.slice pr nr cr) (bitsN R)) :
    ComI w ((((wx.setCell ⟨w.heap.size, 0, none⟩ (.bool false)).setCell ⟨w.heap.size, 1, none⟩ (.slice pb nb cb)).setCell ⟨w.heap.size + 1, 0, none⟩ (.bool false)).setCell ⟨w.heap.size + 1, 1, none⟩ (.slice pr nr cr)) Y R pb nb cb pr nr cr := by
  have co : ∀ {w : World} {b b' o o' : Nat} {v : Value}, (b ≠ b' ∨ o ≠ o') → (w.setCell ⟨b, o, none⟩ v).cell? ⟨b', o', none⟩ = w.cell? ⟨b', o', none⟩ := fun {w b b' o o' v} h => cell_other (by intro e; injection e with e1 e2; rcases h with h | h; exact h e1; exact h e2)
  have e1 : (wx.setCell ⟨w.heap.size, 0, none⟩ (.bool false)).cell? ⟨w.heap.size, 1, none⟩ = some (.slice pa na ca) := by rw [co (Or.inr (by decide))]; exact h.a1
  have e2 : ((wx.setCell ⟨w.heap.size, 0, none⟩ (.bool false)).setCell ⟨w.heap.size, 1, none⟩ (.slice pb nb cb)).cell? ⟨w.heap.size + 1, 0, none⟩ = some (.bool false) := by rw [co (Or.inl (by omega)), co (Or.inl (by omega))]; exact h.b0
  have e3 : (((wx.setCell ⟨w.heap.size, 0, none⟩ (.bool false)).setCell ⟨w.heap.size, 1, none⟩ (.slice pb nb cb)).setCell ⟨w.heap.size + 1, 0, none⟩ (.bool false)).cell? ⟨w.heap.size + 1, 1, none⟩ = some (.slice pb nb cb) := by rw [co (Or.inr (by decide)), co (Or.inl (by omega)), co (Or.inl (by omega))]; exact h.b1
  have keep : ∀ v l, SL wx v l → SL ((((wx.setCell ⟨w.heap.size, 0, none⟩ (.bool false)).setCell ⟨w.heap.size, 1, none⟩ (.slice pb nb cb)).setCell ⟨w.heap.size + 1, 0, none⟩ (.bool false)).setCell ⟨w.heap.size + 1, 1, none⟩ (.slice pr nr cr)) v l := fun v l hv =>
    (((hv.setCell h.a0 (by intro n; simp) _).setCell e1 (by intro n; simp) _).setCell e2 (by intro n; simp) _).setCell e3 (by intro n; simp) _
  have hl0 : w.heap.size ≤ w.heap.size := Nat.le_refl _
  have hl1 : w.heap.size ≤ w.heap.size + 1 := by omega
  refine ⟨?_, ?_, ?_, ?_, ?_, ?_, fun b i g1 g2 g3 => by simpa using h.fz b i g1 g2 g3, keep _ _ h.bb, keep _ _ hr, Below.setCell (Below.setCell (Below.setCell (Below.setCell h.bel hl0 _) hl0 _) hl1 _) hl1 _, by simpa using h.sz⟩
  · rw [co (Or.inl (by omega)), co (Or.inl (by omega)), co (Or.inr (by decide))]; exact cell_same h.a0
  · rw [co (Or.inl (by omega)), co (Or.inl (by omega))]; exact cell_same e1
  · rw [co (Or.inr (by decide))]; exact cell_same e2
  · exact cell_same e3
  · rw [co (Or.inl (by omega)), co (Or.inl (by omega)), co (Or.inl (by omega)), co (Or.inl (by omega))]; exact h.r0
  · rw [co (Or.inl (by omega)), co (Or.inl (by omega)), co (Or.inl (by omega)), co (Or.inl (by omega))]; exact h.r1

theorem ComI.start {w : World} {X Y : Nat} {pa : Option Addr} {na ca : Nat} {pb : Option Addr} {nb cb : Nat} (e : TypeId) (ha : SL w (.slice pa na ca) (bitsN X)) (hb : SL w (.slice pb nb cb) (bitsN Y)) :
    ComI w (((w.alloc (.cells #[.bool false, .slice pa na ca] e)).alloc (.cells #[.bool false, .slice pb nb cb] e)).alloc (.cells #[.bool false, .slice none 0 0] e)) X Y pa na ca pb nb cb := by
  have z1 : (w.alloc (.cells #[.bool false, .slice pa na ca] e)).heap.size = w.heap.size + 1 := by simp
  have z2 : ((w.alloc (.cells #[.bool false, .slice pa na ca] e)).alloc (.cells #[.bool false, .slice pb nb cb] e)).heap.size = w.heap.size + 1 + 1 := by simp
  have hbel : Below w.heap.size w (((w.alloc (.cells #[.bool false, .slice pa na ca] e)).alloc (.cells #[.bool false, .slice pb nb cb] e)).alloc (.cells #[.bool false, .slice none 0 0] e)) := Below.alloc (Below.alloc (Below.alloc (Below.refl _ w) (Nat.le_refl _) _) (by simp) _) (by simp; omega) _
  refine ⟨?_, ?_, ?_, ?_, ?_, ?_, ?_, ha.keep hbel, hb.keep hbel, hbel, by simp⟩
  · rw [World.cell?_alloc_past _ _ _ (by rw [z2]; show w.heap.size < w.heap.size + 1 + 1; omega), World.cell?_alloc_past _ _ _ (by rw [z1]; show w.heap.size < w.heap.size + 1; omega)]; exact new_at rfl
  · rw [World.cell?_alloc_past _ _ _ (by rw [z2]; show w.heap.size < w.heap.size + 1 + 1; omega), World.cell?_alloc_past _ _ _ (by rw [z1]; show w.heap.size < w.heap.size + 1; omega)]; exact new_at rfl
  · rw [World.cell?_alloc_past _ _ _ (by rw [z2]; show w.heap.size + 1 < w.heap.size + 1 + 1; omega), ← z1]; exact new_at rfl
  · rw [World.cell?_alloc_past _ _ _ (by rw [z2]; show w.heap.size + 1 < w.heap.size + 1 + 1; omega), ← z1]; exact new_at rfl
  · rw [← z2]; exact new_at rfl
  · rw [← z2]; exact new_at rfl
  · intro b i g1 g2 g3
    by_cases c2 : b = w.heap.size + 1 + 1
    · subst c2; exact World.frozen?_alloc_at _ _ _ _ z2.symm
    · rw [World.frozen?_alloc_past _ _ _ (by rw [z2]; show b < w.heap.size + 1 + 1; omega)]
      by_cases c1 : b = w.heap.size + 1
      · subst c1; exact World.frozen?_alloc_at _ _ _ _ z1.symm
      · rw [World.frozen?_alloc_past _ _ _ (by rw [z1]; show b < w.heap.size + 1; omega)]
        obtain rfl : b = w.heap.size := by omega
        exact World.frozen?_alloc_at _ _ _ _ rfl

/-- How many digits, and that both stay small. -/
structure ComN (X0 Y0 X Y : Nat) : Prop where
  g : Nat.gcd X Y = Nat.gcd X0 Y0
  lx : (bitsN X).length ≤ 900
  ly : (bitsN Y).length ≤ 900
theorem ComN.next {X0 Y0 X Y : Nat} (h : ComN X0 Y0 X Y) (hY : 0 < Y) : ComN X0 Y0 Y (X % Y) := by
  refine ⟨?_, h.ly, ?_⟩
  · rw [← h.g, Nat.gcd_comm X Y, Nat.gcd_rec Y X, Nat.gcd_comm]
  · have h1 := bitsN_lt h.ly
    exact bitsN_len 900 _ (Nat.lt_of_lt_of_le (Nat.mod_lt _ hY) (Nat.le_of_lt h1))

set_option maxHeartbeats 4000000 in
set_option maxRecDepth 100000 in
theorem com_main (X0 Y0 : Nat) (pa pb : Option Addr) (na ca nb cb : Nat) (w : World) (sa sb : Bool) (ha : SL w (.slice pa na ca) (bitsN X0)) (hb : SL w (.slice pb nb cb) (bitsN Y0)) (hn : ComN X0 Y0 X0 Y0) :
    Calls Try.prog 58 #[.agg #[.bool sa, .slice pa na ca], .agg #[.bool sb, .slice pb nb cb]] w fun e w' => (∃ v, e = .returned v ∧ BigV w' v ((Nat.gcd X0 Y0 : Nat) : Int)) ∧ Below w.heap.size w w' := by
  have HI0 := Lib.hid (ComI.start 29 ha hb)
  have HN0 := Lib.hid hn
  clear ha hb hn
  go_enter Try.func58, Try.ntmps58
  go_wp2
  go_loopg [] Y0 (fun k wr => ∃ (X : Nat) (qa : Option Addr) (ma da : Nat) (qb : Option Addr) (mb db : Nat), ComI w wr X k qa ma da qb mb db ∧ ComN X0 Y0 X k)
  case atStart =>
    exact ⟨X0, _, _, _, _, _, _, HI0.out, HN0.out⟩
  case round =>
    clear HI0 HN0
    obtain ⟨X, qa, ma, da, qb, mb, db, hI, hN⟩ := hrel
    obtain ⟨a0, a1, b0, b1, r0, r1, fz, ba, bb, bel, sz⟩ := id hI
    have hmb := bb.len.1
    have fa0 := fz w.heap.size 0 (by omega) (by omega) (by omega)
    have fa1 := fz w.heap.size 1 (by omega) (by omega) (by omega)
    have fb0 := fz (w.heap.size + 1) 0 (by omega) (by omega) (by omega)
    have fb1 := fz (w.heap.size + 1) 1 (by omega) (by omega) (by omega)
    have fr0 := fz (w.heap.size + 1 + 1) 0 (by omega) (by omega) (by omega)
    have fr1 := fz (w.heap.size + 1 + 1) 1 (by omega) (by omega) (by omega)
    have HI := Lib.hid hI
    have HN := Lib.hid hN
    by_cases hY : gk = 0
    · subst hY
      have hz : mb = 0 := by rw [hmb, bitsN_zero]; rfl
      subst hz
      have hg : X = Nat.gcd X0 Y0 := by have := hN.g; rw [Nat.gcd_zero_right] at this; exact this
      have HG := Lib.hid hg
      clear hmb ba bb fz bel hI hN hg
      go_wp2
      have hsl : SL wr (.slice qa ma da) (bitsN ((Nat.gcd X0 Y0 : Nat) : Int).natAbs) := by rw [Int.natAbs_natCast, ← HG.out]; exact HI.out.ba
      have hbg := big_stored (r := w.heap.size + 1 + 1) (z := ((Nat.gcd X0 Y0 : Nat) : Int)) (b := false) (by rw [decide_eq_false (by omega)]) hsl r0 r1
      have hl : w.heap.size ≤ w.heap.size + 1 + 1 := by omega
      exact bodyPost_ret (v := .agg #[.bool false, .slice qa ma da]) (by simp [results, Try.results58, go_sem, r0, r1]) rfl ⟨⟨_, rfl, hbg⟩, Below.setCell (Below.setCell HI.out.bel hl _) hl _⟩
    · have hpos : 0 < gk := by omega
      have hz : 0 < mb := by
        rw [hmb]
        have := bitsN_len_pos (z := (gk : Int))
        rw [Int.natAbs_natCast] at this
        exact this.2 (by omega)
      have HPt := Lib.hid (parts_main X gk qa qb da db ma mb wr ba.len.2 bb.len.2 ba.len.1 hmb hpos (by rw [ba.len.1]; have := hN.lx; omega) (by rw [hmb]; have := hN.ly; omega) false false)
      clear hmb ba bb fz bel hI hN
      go_wp2_with fail
      refine HPt.out.mono ?_
      rintro e w1 ⟨v1, v2, rfl, hv1, hv2, hb1⟩
      obtain ⟨ua, un, uc, rfl, hu⟩ := bigv_nat hv1
      obtain ⟨ra, rn, rc, rfl, hr⟩ := bigv_nat hv2
      have HI1 := Lib.hid (HI.out.keep hb1)
      have HR1 := Lib.hid hr
      clear hb1 hv1 hv2 hu hr a0 a1 b0 b1 r0 r1 fa0 fa1 fb0 fb1 fr0 fr1
      go_upto_region 5 with fail
      have hkb : Below w1.heap.size w1 ((w1.alloc (.cells #[.bool false, .slice ua un uc] 29)).alloc (.cells #[.bool false, .slice ra rn rc] 29)) := Below.alloc (Below.alloc (Below.refl _ _) (Nat.le_refl _) _) (by simp) _
      have HI2 := Lib.hid (HI1.out.keep hkb)
      have HR2 := Lib.hid (HR1.out.keep hkb)
      have z1 : (w1.alloc (.cells #[.bool false, .slice ua un uc] 29)).heap.size = w1.heap.size + 1 := by simp
      have t0 : ((w1.alloc (.cells #[.bool false, .slice ua un uc] 29)).alloc (.cells #[.bool false, .slice ra rn rc] 29)).cell? ⟨w1.heap.size + 1, 0, none⟩ = some (.bool false) := by rw [← z1]; exact new_at rfl
      have t1 : ((w1.alloc (.cells #[.bool false, .slice ua un uc] 29)).alloc (.cells #[.bool false, .slice ra rn rc] 29)).cell? ⟨w1.heap.size + 1, 1, none⟩ = some (.slice ra rn rc) := by rw [← z1]; exact new_at rfl
      have hq : w.heap.size + 3 ≤ w1.heap.size := HI1.out.sz
      clear hkb HI1 HR1 z1
      generalize ((w1.alloc (.cells #[.bool false, .slice ua un uc] 29)).alloc (.cells #[.bool false, .slice ra rn rc] 29)) = W at *
      generalize w1.heap.size = Q at *
      obtain ⟨a0, a1, b0, b1, r0, r1, fz, ba, bb, bel, sz⟩ := id HI2.out
      have fa0 := fz w.heap.size 0 (by omega) (by omega) (by omega)
      have fa1 := fz w.heap.size 1 (by omega) (by omega) (by omega)
      have fb0 := fz (w.heap.size + 1) 0 (by omega) (by omega) (by omega)
      have fb1 := fz (w.heap.size + 1) 1 (by omega) (by omega) (by omega)
      have n1 : Q + 1 ≠ w.heap.size := by omega
      have n2 : Q + 1 ≠ w.heap.size + 1 := by omega
      clear ba bb bel fz
      go_wp2
      go_roundg (X % gk)
      case measure => exact Nat.mod_lt _ hpos
      case rel => exact ⟨gk, _, _, _, _, _, _, HI2.out.next HR2.out, HN.out.next hpos⟩

/-- The greatest divisor of two numbers, without signs. -/
theorem com_any (x y : Int) (v v' : Value) (w : World) (h : BigV w v x) (h' : BigV w v' y) (lx : x.natAbs < 2 ^ 900) (ly : y.natAbs < 2 ^ 900) :
    Calls Try.prog 58 #[v, v'] w fun e w' => (∃ v, e = .returned v ∧ BigV w' v ((Int.gcd x y : Nat) : Int)) ∧ Below w.heap.size w w' := by
  obtain ⟨s, rfl, hs⟩ := h
  obtain ⟨s', rfl, hs'⟩ := h'
  obtain ⟨a, c, rfl, g1, g2, g3⟩ := hs
  obtain ⟨b, d, rfl, k1, k2, k3⟩ := hs'
  exact com_main x.natAbs y.natAbs a b _ c _ d w _ _ ⟨a, c, rfl, g1, g2, g3⟩ ⟨b, d, rfl, k1, k2, k3⟩ ⟨rfl, bitsN_len _ _ lx, bitsN_len _ _ ly⟩

end Go.Proofs.Ytljhjjkbpckkjaa

/-
  Package ratio: Compare.
-/
import Derived.Test.YtljhjjkbpckkjaaRatK
namespace Go.Proofs.Ytljhjjkbpckkjaa
open Go.RowKit
set_option linter.unusedVariables false

/-- Two ratios in two new blocks. -/
structure BoxAB (w wx : World) (na da nb db : Int) : Prop where
  a0 : wx.cell? ⟨w.heap.size, 0, none⟩ = some (.int .i64 na)
  a1 : wx.cell? ⟨w.heap.size, 1, none⟩ = some (.int .i64 da)
  b0 : wx.cell? ⟨w.heap.size + 1, 0, none⟩ = some (.int .i64 nb)
  b1 : wx.cell? ⟨w.heap.size + 1, 1, none⟩ = some (.int .i64 db)
  bel : Below w.heap.size w wx
  sz : w.heap.size + 2 ≤ wx.heap.size
theorem BoxAB.keep {w wx w1 : World} {na da nb db : Int} (h : BoxAB w wx na da nb db) (hb : Below wx.heap.size wx w1) : BoxAB w w1 na da nb db := by
  have hs := h.sz
  have hs1 := hb.size
  have hc : ∀ b i, b < w.heap.size + 2 → w1.cell? ⟨b, i, none⟩ = wx.cell? ⟨b, i, none⟩ := fun b i hb' => hb.cell (p := ⟨b, i, none⟩) (show b < wx.heap.size by omega)
  exact ⟨(hc _ _ (by omega)).trans h.a0, (hc _ _ (by omega)).trans h.a1, (hc _ _ (by omega)).trans h.b0, (hc _ _ (by omega)).trans h.b1, h.bel.trans (hb.mono (by omega)), by omega⟩
theorem BoxAB.start (w : World) (na da nb db : Int) (e : TypeId) : BoxAB w ((w.alloc (.cells #[.int .i64 na, .int .i64 da] e)).alloc (.cells #[.int .i64 nb, .int .i64 db] e)) na da nb db := by
  have z1 : (w.alloc (.cells #[.int .i64 na, .int .i64 da] e)).heap.size = w.heap.size + 1 := by simp
  have at0 : ∀ (x : World) (c : Array Value) (i : Nat) (v : Value), c[i]? = some v → (x.alloc (.cells c e)).cell? ⟨x.heap.size, i, none⟩ = some v := fun x c i v h => by rw [World.cell?_alloc_at _ _ _ _ rfl]; exact h
  refine ⟨?_, ?_, ?_, ?_, Below.alloc (Below.alloc (Below.refl _ w) (Nat.le_refl _) _) (by simp) _, by simp⟩
  · rw [World.cell?_alloc_past _ _ _ (by rw [z1]; show w.heap.size < w.heap.size + 1; omega)]; exact at0 _ _ _ _ rfl
  · rw [World.cell?_alloc_past _ _ _ (by rw [z1]; show w.heap.size < w.heap.size + 1; omega)]; exact at0 _ _ _ _ rfl
  · rw [← z1]; exact at0 _ _ _ _ rfl
  · rw [← z1]; exact at0 _ _ _ _ rfl

set_option maxHeartbeats 2000000 in
set_option maxRecDepth 100000 in
theorem bothI_any (na da nb db x c : Int) (f : FuncId) (cap : Array Value) (w : World) (na0 : -9223372036854775808 ≤ na) (na1 : na ≤ 9223372036854775807) (da0 : -9223372036854775808 ≤ da) (da1 : da ≤ 9223372036854775807)
    (nb0 : -9223372036854775808 ≤ nb) (nb1 : nb ≤ 9223372036854775807) (db0 : -9223372036854775808 ≤ db) (db1 : db ≤ 9223372036854775807)
    (hd : bothE na da nb db = 0 → ∀ W, Below w.heap.size w W → Calls Try.prog f cap W fun e w' => e = .returned (.tuple #[.int .i64 x, .int .i64 c]) ∧ Below W.heap.size W w')
    (hent : ∀ W, (callFunc f cap).run Try.prog W = .ok (.enter f cap) W)
    (he : bothE na da nb db ≠ 0 → x = 0 ∧ c = bothE na da nb db) :
    Calls Try.prog 68 #[.agg #[.int .i64 na, .int .i64 da], .agg #[.int .i64 nb, .int .i64 db], .func (.func f) #[] cap] w fun e w' => e = .returned (.tuple #[.int .i64 x, .int .i64 c]) ∧ Below w.heap.size w w' := by
  have HD : Hid (bothE na da nb db = 0 → ∀ W, Below w.heap.size w W → Calls Try.prog f cap W fun e w' => e = .returned (.tuple #[.int .i64 x, .int .i64 c]) ∧ Below W.heap.size W w') := Lib.hid hd
  have HE : Hid (bothE na da nb db ≠ 0 → x = 0 ∧ c = bothE na da nb db) := Lib.hid he
  clear hd he
  go_enter Try.func68, Try.ntmps68
  go_wp2_with fail
  have HB := Lib.hid (BoxAB.start w na da nb db 42)
  generalize ((w.alloc (.cells #[.int .i64 na, .int .i64 da] 42)).alloc (.cells #[.int .i64 nb, .int .i64 db] 42)) = W at HB ⊢
  obtain ⟨a0, a1, b0, b1, _, _⟩ := id HB.out
  go_cut [8] (fun t wx => t = .int .i64 (bothE na da nb db) ∧ BoxAB w wx na da nb db)
  case first =>
    have HC1 := Lib.hid (check_any na da W.drew na0 na1 da0 da1)
    have HC2 := Lib.hid (fun w => check_any nb db w nb0 nb1 db0 db1)
    have HBe : Hid (bothE na da nb db = firstE (chkE na da) (chkE nb db)) := Lib.hid rfl
    generalize chkE na da = e1 at *
    generalize chkE nb db = e2 at *
    go_region_with (first | (go_at_call 22; refine HC1.out.mono ?_; rintro e w1 ⟨rfl, hb1⟩; have HB1 := Lib.hid (HB.out.keep (drew_belowR hb1)); obtain ⟨a0', a1', b0', b1', _, _⟩ := id HB1.out; clear hb1 HC1) | (go_at_call 22; refine (HC2.out _).mono ?_; rintro e w2 ⟨rfl, hb2⟩; have HB2 := Lib.hid (HB1.out.keep hb2); have HFi := Lib.hid (first_new e1 e2 w2); clear hb2 HC2) | (go_at_call 77; refine HFi.out.mono ?_; rintro e w3 ⟨rfl, rfl⟩))
    all_goals go_wp2
    all_goals go_meet
    all_goals exact ⟨by rw [HBe.out], HB2.out.keep (Below.alloc (Below.refl _ _) (Nat.le_refl _) _)⟩
  case rest =>
    obtain ⟨rfl, hB⟩ := hcut
    rename_i wc
    clear a0 a1 b0 b1 HB
    have HB2 := Lib.hid hB
    obtain ⟨a0, a1, b0, b1, _, _⟩ := hB
    generalize bothE na da nb db = er at *
    by_cases h : er = 0
    · have HDo := Lib.hid (HD.out h)
      subst h
      clear HD HE
      go_wp2_with fail
      refine (HDo.out _ HB2.out.bel).mono ?_
      rintro e w3 ⟨rfl, hb3⟩
      have HB3 := Lib.hid (HB2.out.keep hb3)
      clear hb3 HDo a0 a1 b0 b1 HB2
      go_wp2_with fail
      go_ret2
      exact ⟨rfl, HB3.out.bel⟩
    · obtain ⟨hx, hc⟩ := HE.out h
      subst hx; subst hc
      have hb : (c != 0) = true := by simpa using h
      have hc : (c == 0) = false := by simpa using h
      clear HD HE h
      go_wp2_with fail
      go_ret2
      exact ⟨rfl, HB2.out.bel⟩

/-- Which of two ratios is greater. -/
def cmpS (na da nb db : Int) : Int := (na * db - nb * da).sign
theorem cross_sign {na da nb db : Int} (ha : OkR na da) (hb : OkR nb db) : (crossZ na da (-nb) db).sign = cmpS na da nb db := by
  have hg := crossG_pos (da := da) hb.d0
  have e : na * db - nb * da = crossG da db * crossZ na da (-nb) db := by
    unfold crossZ crossG
    have h1 : db = ((Int.gcd da db : Nat) : Int) * db.tdiv (Int.gcd da db : Nat) := (Int.mul_tdiv_cancel' (Int.gcd_dvd_right da db)).symm
    have h2 : da = ((Int.gcd da db : Nat) : Int) * da.tdiv (Int.gcd da db : Nat) := (Int.mul_tdiv_cancel' (Int.gcd_dvd_left da db)).symm
    have p1 : na * db = ((Int.gcd da db : Nat) : Int) * (na * db.tdiv (Int.gcd da db : Nat)) := by
      conv => lhs; rw [h1]
      rw [← Int.mul_assoc, ← Int.mul_assoc, Int.mul_comm na]
    have p2 : nb * da = ((Int.gcd da db : Nat) : Int) * (nb * da.tdiv (Int.gcd da db : Nat)) := by
      conv => lhs; rw [h2]
      rw [← Int.mul_assoc, ← Int.mul_assoc, Int.mul_comm nb]
    rw [p1, p2, ← Int.mul_sub, Int.sub_eq_add_neg, Int.neg_mul]
  unfold cmpS
  rw [e, Int.sign_mul, Int.sign_eq_one_of_pos hg, Int.one_mul]

/-- The wide number, in a block of its own. -/
def CmpCut (w wx : World) (t : Value) (z g : Int) : Prop := ∃ Q : Nat, t = .pointer (some ⟨Q, 0, none⟩) ∧ wx.cell? ⟨Q, 0, none⟩ = some (.int .u64 (wH z)) ∧ wx.cell? ⟨Q, 1, none⟩ = some (.int .u64 (wL z)) ∧ Below w.heap.size w wx

structure Cap2 (w wx : World) (A B : Nat) (na da nb db : Int) : Prop where
  a0 : wx.cell? ⟨A, 0, none⟩ = some (.int .i64 na)
  a1 : wx.cell? ⟨A, 1, none⟩ = some (.int .i64 da)
  b0 : wx.cell? ⟨B, 0, none⟩ = some (.int .i64 nb)
  b1 : wx.cell? ⟨B, 1, none⟩ = some (.int .i64 db)
  bel : Below w.heap.size w wx
  la : A < w.heap.size
  lb : B < w.heap.size
theorem Cap2.keep {w wx w1 : World} {A B : Nat} {na da nb db : Int} (h : Cap2 w wx A B na da nb db) (hb : Below wx.heap.size wx w1) : Cap2 w w1 A B na da nb db := by
  have la := h.la
  have lb := h.lb
  have hs := h.bel.size
  have hc : ∀ b i, b < w.heap.size → w1.cell? ⟨b, i, none⟩ = wx.cell? ⟨b, i, none⟩ := fun b i hb' => hb.cell (p := ⟨b, i, none⟩) (show b < wx.heap.size by omega)
  exact ⟨(hc _ _ la).trans h.a0, (hc _ _ la).trans h.a1, (hc _ _ lb).trans h.b0, (hc _ _ lb).trans h.b1, h.bel.trans (hb.mono hs), la, lb⟩

end Go.Proofs.Ytljhjjkbpckkjaa

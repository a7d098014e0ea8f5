/-
  Package ratio: Compare.
-/
import Derived.Test.YtgeneoamngfomaaGreatDoorRtJ
namespace Go.Proofs.YtgeneoamngfomaaGreatDoor
open Go.RowKit
set_option linter.unusedVariables false

/-- Two ratios in two new blocks. -/
structure BoxAB (w wx : World) (na da nb db : Int) : Prop where
  a0 : wx.cell? ⟨w.heap.size, 0, none⟩ = some (.int .i64 na)
  a1 : wx.cell? ⟨w.heap.size, 1, none⟩ = some (.int .i64 da)
  b0 : wx.cell? ⟨w.heap.size + 1, 0, none⟩ = some (.int .i64 nb)
  b1 : wx.cell? ⟨w.heap.size + 1, 1, none⟩ = some (.int .i64 db)
  bel : Below w.heap.size w wx
  sz : w.heap.size + 2 ≤ wx.heap.size
theorem BoxAB.keep {w wx w1 : World} {na da nb db : Int} (h : BoxAB w wx na da nb db) (hb : Below wx.heap.size wx w1) : BoxAB w w1 na da nb db := by
  have hs := h.sz
  have hs1 := hb.size
  have hc : ∀ b i, b < w.heap.size + 2 → w1.cell? ⟨b, i, none⟩ = wx.cell? ⟨b, i, none⟩ := fun b i hb' => hb.cell (p := ⟨b, i, none⟩) (show b < wx.heap.size by omega)
  exact ⟨(hc _ _ (by omega)).trans h.a0, (hc _ _ (by omega)).trans h.a1, (hc _ _ (by omega)).trans h.b0, (hc _ _ (by omega)).trans h.b1, h.bel.trans (hb.mono (by omega)), by omega⟩
theorem BoxAB.start (w : World) (na da nb db : Int) (e : TypeId) : BoxAB w ((w.alloc (.cells #[.int .i64 na, .int .i64 da] e)).alloc (.cells #[.int .i64 nb, .int .i64 db] e)) na da nb db := by
  have z1 : (w.alloc (.cells #[.int .i64 na, .int .i64 da] e)).heap.size = w.heap.size + 1 := by simp
  have at0 : ∀ (x : World) (c : Array Value) (i : Nat) (v : Value), c[i]? = some v → (x.alloc (.cells c e)).cell? ⟨x.heap.size, i, none⟩ = some v := fun x c i v h => by rw [World.cell?_alloc_at _ _ _ _ rfl]; exact h
  refine ⟨?_, ?_, ?_, ?_, Below.alloc (Below.alloc (Below.refl _ w) (Nat.le_refl _) _) (by simp) _, by simp⟩
  · rw [World.cell?_alloc_past _ _ _ (by rw [z1]; show w.heap.size < w.heap.size + 1; omega)]; exact at0 _ _ _ _ rfl
  · rw [World.cell?_alloc_past _ _ _ (by rw [z1]; show w.heap.size < w.heap.size + 1; omega)]; exact at0 _ _ _ _ rfl
  · rw [← z1]; exact at0 _ _ _ _ rfl
  · rw [← z1]; exact at0 _ _ _ _ rfl

set_option maxHeartbeats 2000000 in
set_option maxRecDepth 100000 in
theorem bothI_any (na da nb db x c : Int) (f : FuncId) (cap : Array Value) (w : World) (na0 : -9223372036854775808 ≤ na) (na1 : na ≤ 9223372036854775807) (da0 : -9223372036854775808 ≤ da) (da1 : da ≤ 9223372036854775807)
    (nb0 : -9223372036854775808 ≤ nb) (nb1 : nb ≤ 9223372036854775807) (db0 : -9223372036854775808 ≤ db) (db1 : db ≤ 9223372036854775807)
    (hd : bothE na da nb db = 0 → ∀ W, Below w.heap.size w W → Calls Tryz.prog f cap W fun e w' => e = .returned (.tuple #[.int .i64 x, .int .i64 c]) ∧ Below W.heap.size W w')
    (hent : ∀ W, (callFunc f cap).run Tryz.prog W = .ok (.enter f cap) W)
    (he : bothE na da nb db ≠ 0 → x = 0 ∧ c = bothE na da nb db) :
    Calls Tryz.prog 148 #[.agg #[.int .i64 na, .int .i64 da], .agg #[.int .i64 nb, .int .i64 db], .func (.func f) #[] cap] w fun e w' => e = .returned (.tuple #[.int .i64 x, .int .i64 c]) ∧ Below w.heap.size w w' := by
  have HD : Hid (bothE na da nb db = 0 → ∀ W, Below w.heap.size w W → Calls Tryz.prog f cap W fun e w' => e = .returned (.tuple #[.int .i64 x, .int .i64 c]) ∧ Below W.heap.size W w') := Lib.hid hd
  have HE : Hid (bothE na da nb db ≠ 0 → x = 0 ∧ c = bothE na da nb db) := Lib.hid he
  clear hd he
  go_enter Tryz.func148, Tryz.ntmps148
  go_wp2_with fail
  have HB := Lib.hid (BoxAB.start w na da nb db 58)
  generalize ((w.alloc (.cells #[.int .i64 na, .int .i64 da] 58)).alloc (.cells #[.int .i64 nb, .int .i64 db] 58)) = W at HB ⊢
  obtain ⟨a0, a1, b0, b1, _, _⟩ := id HB.out
  go_cut [8] (fun t wx => t = .int .i64 (bothE na da nb db) ∧ BoxAB w wx na da nb db)
  case first =>
    have HC1 := Lib.hid (check_any na da W.drew na0 na1 da0 da1)
    have HC2 := Lib.hid (fun w => check_any nb db w nb0 nb1 db0 db1)
    have HBe : Hid (bothE na da nb db = firstE (chkE na da) (chkE nb db)) := Lib.hid rfl
    generalize chkE na da = e1 at *
    generalize chkE nb db = e2 at *
    go_region_with (first | (go_at_call 77; refine HC1.out.mono ?_; rintro e w1 ⟨rfl, hb1⟩; have HB1 := Lib.hid (HB.out.keep (drew_belowR hb1)); obtain ⟨a0', a1', b0', b1', _, _⟩ := id HB1.out; clear hb1 HC1) | (go_at_call 77; refine (HC2.out _).mono ?_; rintro e w2 ⟨rfl, hb2⟩; have HB2 := Lib.hid (HB1.out.keep hb2); have HFi := Lib.hid (first_new e1 e2 w2); clear hb2 HC2) | (go_at_call 165; refine HFi.out.mono ?_; rintro e w3 ⟨rfl, rfl⟩))
    all_goals go_wp2
    all_goals go_meet
    all_goals exact ⟨by rw [HBe.out], HB2.out.keep (Below.alloc (Below.refl _ _) (Nat.le_refl _) _)⟩
  case rest =>
    obtain ⟨rfl, hB⟩ := hcut
    rename_i wc
    clear a0 a1 b0 b1 HB
    have HB2 := Lib.hid hB
    obtain ⟨a0, a1, b0, b1, _, _⟩ := hB
    generalize bothE na da nb db = er at *
    by_cases h : er = 0
    · have HDo := Lib.hid (HD.out h)
      subst h
      clear HD HE
      go_wp2_with fail
      refine (HDo.out _ HB2.out.bel).mono ?_
      rintro e w3 ⟨rfl, hb3⟩
      have HB3 := Lib.hid (HB2.out.keep hb3)
      clear hb3 HDo a0 a1 b0 b1 HB2
      go_wp2_with fail
      go_ret2
      exact ⟨rfl, HB3.out.bel⟩
    · obtain ⟨hx, hc⟩ := HE.out h
      subst hx; subst hc
      have hb : (c != 0) = true := by simpa using h
      have hc : (c == 0) = false := by simpa using h
      clear HD HE h
      go_wp2_with fail
      go_ret2
      exact ⟨rfl, HB2.out.bel⟩

/-- Which of two ratios is greater. -/
def cmpS (na da nb db : Int) : Int := (na * db - nb * da).sign
theorem cross_sign {na da nb db : Int} (ha : OkR na da) (hb : OkR nb db) : (crossZ na da (-nb) db).sign = cmpS na da nb db := by
  have hg := crossG_pos (da := da) hb.d0
  have e : na * db - nb * da = crossG da db * crossZ na da (-nb) db := by
    unfold crossZ crossG
    have h1 : db = ((Int.gcd da db : Nat) : Int) * db.tdiv (Int.gcd da db : Nat) := (Int.mul_tdiv_cancel' (Int.gcd_dvd_right da db)).symm
    have h2 : da = ((Int.gcd da db : Nat) : Int) * da.tdiv (Int.gcd da db : Nat) := (Int.mul_tdiv_cancel' (Int.gcd_dvd_left da db)).symm
    have p1 : na * db = ((Int.gcd da db : Nat) : Int) * (na * db.tdiv (Int.gcd da db : Nat)) := by
      conv => lhs; rw [h1]
      rw [← Int.mul_assoc, ← Int.mul_assoc, Int.mul_comm na]
    have p2 : nb * da = ((Int.gcd da db : Nat) : Int) * (nb * da.tdiv (Int.gcd da db : Nat)) := by
      conv => lhs; rw [h2]
      rw [← Int.mul_assoc, ← Int.mul_assoc, Int.mul_comm nb]
    rw [p1, p2, ← Int.mul_sub, Int.sub_eq_add_neg, Int.neg_mul]
  unfold cmpS
  rw [e, Int.sign_mul, Int.sign_eq_one_of_pos hg, Int.one_mul]

/-- The wide number, in a block of its own. -/
def CmpCut (w wx : World) (t : Value) (z g : Int) : Prop := ∃ Q : Nat, t = .pointer (some ⟨Q, 0, none⟩) ∧ wx.cell? ⟨Q, 0, none⟩ = some (.int .u64 (wH z)) ∧ wx.cell? ⟨Q, 1, none⟩ = some (.int .u64 (wL z)) ∧ Below w.heap.size w wx

structure Cap2 (w wx : World) (A B : Nat) (na da nb db : Int) : Prop where
  a0 : wx.cell? ⟨A, 0, none⟩ = some (.int .i64 na)
  a1 : wx.cell? ⟨A, 1, none⟩ = some (.int .i64 da)
  b0 : wx.cell? ⟨B, 0, none⟩ = some (.int .i64 nb)
  b1 : wx.cell? ⟨B, 1, none⟩ = some (.int .i64 db)
  bel : Below w.heap.size w wx
  la : A < w.heap.size
  lb : B < w.heap.size
theorem Cap2.keep {w wx w1 : World} {A B : Nat} {na da nb db : Int} (h : Cap2 w wx A B na da nb db) (hb : Below wx.heap.size wx w1) : Cap2 w w1 A B na da nb db := by
  have la := h.la
  have lb := h.lb
  have hs := h.bel.size
  have hc : ∀ b i, b < w.heap.size → w1.cell? ⟨b, i, none⟩ = wx.cell? ⟨b, i, none⟩ := fun b i hb' => hb.cell (p := ⟨b, i, none⟩) (show b < wx.heap.size by omega)
  exact ⟨(hc _ _ la).trans h.a0, (hc _ _ la).trans h.a1, (hc _ _ lb).trans h.b0, (hc _ _ lb).trans h.b1, h.bel.trans (hb.mono hs), la, lb⟩

end Go.Proofs.YtgeneoamngfomaaGreatDoor

namespace Go.Proofs.YtgeneoamngfomaaGreatDoor
open Go.RowKit
set_option linter.unusedVariables false

/-- A block of three cells that hold nothing yet. -/
structure QC (wx : World) (Q : Nat) : Prop where
  c0 : wx.cell? ⟨Q, 0, none⟩ = some (.int .u64 0)
  c1 : wx.cell? ⟨Q, 1, none⟩ = some (.int .u64 0)
  c2 : wx.cell? ⟨Q, 2, none⟩ = some (.int .i64 0)
  f0 : wx.frozen? ⟨Q, 0, none⟩ = false
  f1 : wx.frozen? ⟨Q, 1, none⟩ = false
  f2 : wx.frozen? ⟨Q, 2, none⟩ = false
  lt : Q < wx.heap.size
theorem QC.keep {wx w1 : World} {Q : Nat} (h : QC wx Q) (hb : Below wx.heap.size wx w1) : QC w1 Q := by
  have hc : ∀ i, w1.cell? ⟨Q, i, none⟩ = wx.cell? ⟨Q, i, none⟩ := fun i => hb.cell (p := ⟨Q, i, none⟩) h.lt
  have hf : ∀ i, w1.frozen? ⟨Q, i, none⟩ = wx.frozen? ⟨Q, i, none⟩ := fun i => hb.frozen (p := ⟨Q, i, none⟩) h.lt
  exact ⟨(hc _).trans h.c0, (hc _).trans h.c1, (hc _).trans h.c2, (hf _).trans h.f0, (hf _).trans h.f1, (hf _).trans h.f2, Nat.lt_of_lt_of_le h.lt hb.size⟩
theorem QC.new (w : World) (e : TypeId) : QC (w.alloc (.cells #[.int .u64 0, .int .u64 0, .int .i64 0] e)) w.heap.size :=
  ⟨by rw [World.cell?_alloc_at _ _ _ _ rfl]; rfl, by rw [World.cell?_alloc_at _ _ _ _ rfl]; rfl, by rw [World.cell?_alloc_at _ _ _ _ rfl]; rfl, World.frozen?_alloc_at _ _ _ _ rfl, World.frozen?_alloc_at _ _ _ _ rfl, World.frozen?_alloc_at _ _ _ _ rfl, by simp⟩
theorem QC.of_drew {w w1 : World} {e : TypeId} (h : Below (w.alloc (.cells #[.int .u64 0, .int .u64 0, .int .i64 0] e)).drew.heap.size (w.alloc (.cells #[.int .u64 0, .int .u64 0, .int .i64 0] e)).drew w1) : QC w1 w.heap.size := (QC.new w e).keep (drew_belowR h)
theorem QC.of_alloc {w w1 : World} {e : TypeId} (h : Below (w.alloc (.cells #[.int .u64 0, .int .u64 0, .int .i64 0] e)).heap.size (w.alloc (.cells #[.int .u64 0, .int .u64 0, .int .i64 0] e)) w1) : QC w1 w.heap.size := (QC.new w e).keep h
theorem alloc_belowR {w w1 : World} {o : Obj} (h : Below (w.alloc o).heap.size (w.alloc o) w1) : Below w.heap.size w w1 := (Below.alloc (Below.refl _ _) (Nat.le_refl _) _).trans (h.mono (by simp))
theorem allocd_belowR {w w1 : World} {o : Obj} (h : Below (w.alloc o).drew.heap.size (w.alloc o).drew w1) : Below w.heap.size w w1 := alloc_belowR (drew_belowR h)

theorem CmpCut.of_set {w w2 : World} {Q : Nat} {z g : Int} (hb : Below w.heap.size w w2) (h : QC w2 Q) (hQ : w.heap.size ≤ Q) : CmpCut w (((w2.setCell ⟨Q, 0, none⟩ (.int .u64 (wH z))).setCell ⟨Q, 1, none⟩ (.int .u64 (wL z))).setCell ⟨Q, 2, none⟩ (.int .i64 g)) (.pointer (some ⟨Q, 0, none⟩)) z g := by
  refine ⟨Q, rfl, ?_, ?_, Below.setCell (Below.setCell (Below.setCell hb hQ _) hQ _) hQ _⟩
  · rw [cellOther (Or.inr (by decide)), cellOther (Or.inr (by decide))]; exact cellSame h.c0
  · rw [cellOther (Or.inr (by decide))]
    refine cellSame (u := .int .u64 0) ?_
    rw [cellOther (Or.inr (by decide))]; exact h.c1

set_option maxHeartbeats 2000000 in
set_option maxRecDepth 100000 in
theorem cmp1_any (A B : Nat) (na da nb db : Int) (w : World) (ha : OkR na da) (hb : OkR nb db) (la : A < w.heap.size) (lb : B < w.heap.size) (a0 : w.cell? ⟨A, 0, none⟩ = some (.int .i64 na)) (a1 : w.cell? ⟨A, 1, none⟩ = some (.int .i64 da)) (b0 : w.cell? ⟨B, 0, none⟩ = some (.int .i64 nb)) (b1 : w.cell? ⟨B, 1, none⟩ = some (.int .i64 db)) :
    Calls Tryz.prog 149 #[.pointer (some ⟨A, 0, none⟩), .pointer (some ⟨B, 0, none⟩)] w fun e w' => e = .returned (.tuple #[.int .i64 (cmpS na da nb db), .int .i64 0]) ∧ Below w.heap.size w w' := by
  have HK := Lib.hid (Cap2.mk a0 a1 b0 b1 (Below.refl _ _) la lb)
  have HO := Lib.hid (fun w => opposite_any nb db w hb.n0 hb.n1)
  have HC := Lib.hid (fun w => cross_any na da (-nb) db w ha hb.opp)
  obtain ⟨z0, z1⟩ := crossZ_lim ha hb.opp
  have hs := cross_sign ha hb
  rw [← hs]
  generalize crossZ na da (-nb) db = z at *
  generalize crossG da db = g at *
  have HSg := Lib.hid (fun Q W c0 c1 => wsign_any Q z W z0 z1 c0 c1)
  clear hs ha hb z0 z1
  go_enter Tryz.func149, Tryz.ntmps149
  go_wp2_with fail
  go_cut [4] (fun t wx => CmpCut w wx t z g)
  case first =>
    go_region_with (first | (go_at_call 142; refine (HO.out _).mono ?_; rintro e w1 ⟨rfl, hb1⟩; (first | (have HK1 := Lib.hid (HK.out.keep (drew_belowR hb1))) | (have HK1 := Lib.hid (HK.out.keep (allocd_belowR hb1)); have HQ1 := Lib.hid (QC.of_drew hb1))); obtain ⟨a0', a1', b0', b1', _, _, _⟩ := id HK1.out; have la1 := Nat.lt_of_lt_of_le la HK1.out.bel.size; have lb1 := Nat.lt_of_lt_of_le lb HK1.out.bel.size; clear hb1) | (go_at_call 150; refine (HC.out _).mono ?_; rintro e w2 ⟨rfl, hb2⟩; (first | (have HQ2 := Lib.hid (HQ1.out.keep hb2); have HK2 := Lib.hid (HK1.out.keep hb2); obtain ⟨q0, q1, q2, g0, g1, g2, _⟩ := id HQ2.out) | (have HK2 := Lib.hid (HK1.out.keep hb2)) | (have HQ2 := Lib.hid (QC.of_alloc hb2); have HK2 := Lib.hid (HK1.out.keep (alloc_belowR hb2)); obtain ⟨q0, q1, q2, g0, g1, g2, _⟩ := id HQ2.out)); clear hb2))
    all_goals go_wp2
    all_goals go_meet
    all_goals (first | exact ⟨_, rfl, by rw [World.cell?_alloc_at _ _ _ _ rfl]; rfl, by rw [World.cell?_alloc_at _ _ _ _ rfl]; rfl, Below.alloc HK2.out.bel HK2.out.bel.size _⟩ | exact CmpCut.of_set HK2.out.bel HQ2.out (Nat.le_refl _) | exact CmpCut.of_set HK2.out.bel HQ2.out HK1.out.bel.size)
  case rest =>
    obtain ⟨Q, rfl, c0, c1, hbel⟩ := hcut
    rename_i wc
    have HBel := Lib.hid hbel
    clear hbel
    go_wp2_with fail
    refine (HSg.out Q _ c0 c1).mono ?_
    rintro e w' ⟨rfl, rfl⟩
    go_wp2_with fail
    go_ret2
    exact ⟨rfl, HBel.out⟩

set_option maxHeartbeats 2000000 in
set_option maxRecDepth 100000 in
theorem compare_anyR (na da nb db : Int) (w : World) (na0 : -9223372036854775808 ≤ na) (na1 : na ≤ 9223372036854775807) (da0 : -9223372036854775808 ≤ da) (da1 : da ≤ 9223372036854775807)
    (nb0 : -9223372036854775808 ≤ nb) (nb1 : nb ≤ 9223372036854775807) (db0 : -9223372036854775808 ≤ db) (db1 : db ≤ 9223372036854775807) :
    Calls Tryz.prog 121 #[.agg #[.int .i64 na, .int .i64 da], .agg #[.int .i64 nb, .int .i64 db]] w fun e w' => e = .returned (.tuple #[.int .i64 (if bothE na da nb db = 0 then cmpS na da nb db else 0), .int .i64 (bothE na da nb db)]) ∧ Below w.heap.size w w' := by
  have hmf : ∀ (fn : Fn) (first cap : Array Value) (w : World), (Instr.makeFunc fn first cap).run Tryz.prog w = .ok (.func fn first cap) w := fun _ _ _ _ => rfl
  have HBo := Lib.hid (fun (W : World) (HB : BoxAB w W na da nb db) => bothI_any na da nb db (if bothE na da nb db = 0 then cmpS na da nb db else 0) (bothE na da nb db) 149 #[.pointer (some ⟨w.heap.size, 0, none⟩), .pointer (some ⟨w.heap.size + 1, 0, none⟩)] W na0 na1 da0 da1 nb0 nb1 db0 db1
    (fun hz W' hW => by
      obtain ⟨ha, hb⟩ := bothE_ok hz na0 na1 da1 nb0 nb1 db1
      have HB' := HB.keep hW
      rw [if_pos hz, hz]
      exact cmp1_any _ _ na da nb db W' ha hb (by have := HB'.sz; omega) (by have := HB'.sz; omega) HB'.a0 HB'.a1 HB'.b0 HB'.b1)
    (fun W' => by rfl)
    (fun hz => ⟨if_neg hz, rfl⟩))
  generalize (if bothE na da nb db = 0 then cmpS na da nb db else 0) = x at *
  generalize bothE na da nb db = c at *
  go_enter Tryz.func121, Tryz.ntmps121
  go_wp2_with fail
  refine (HBo.out _ (BoxAB.start w na da nb db 58)).mono ?_
  rintro e w1 ⟨rfl, hb1⟩
  have HB := Lib.hid ((BoxAB.start w na da nb db 58).keep hb1)
  clear hb1 HBo
  go_wp2_with fail
  go_ret2
  exact ⟨rfl, HB.out.bel⟩

end Go.Proofs.YtgeneoamngfomaaGreatDoor

/-
  Package ratio: Compare.
-/
import Derived.Test.YtljhjjkbpckkjaaRatL
namespace Go.Proofs.Ytljhjjkbpckkjaa
open Go.RowKit
set_option linter.unusedVariables false

/-- A block of three cells that hold nothing yet. -/
structure QC (wx : World) (Q : Nat) : Prop where
  c0 : wx.cell? ⟨Q, 0, none⟩ = some (.int .u64 0)
  c1 : wx.cell? ⟨Q, 1, none⟩ = some (.int .u64 0)
  c2 : wx.cell? ⟨Q, 2, none⟩ = some (.int .i64 0)
  f0 : wx.frozen? ⟨Q, 0, none⟩ = false
  f1 : wx.frozen? ⟨Q, 1, none⟩ = false
  f2 : wx.frozen? ⟨Q, 2, none⟩ = false
  lt : Q < wx.heap.size
theorem QC.keep {wx w1 : World} {Q : Nat} (h : QC wx Q) (hb : Below wx.heap.size wx w1) : QC w1 Q := by
  have hc : ∀ i, w1.cell? ⟨Q, i, none⟩ = wx.cell? ⟨Q, i, none⟩ := fun i => hb.cell (p := ⟨Q, i, none⟩) h.lt
  have hf : ∀ i, w1.frozen? ⟨Q, i, none⟩ = wx.frozen? ⟨Q, i, none⟩ := fun i => hb.frozen (p := ⟨Q, i, none⟩) h.lt
  exact ⟨(hc _).trans h.c0, (hc _).trans h.c1, (hc _).trans h.c2, (hf _).trans h.f0, (hf _).trans h.f1, (hf _).trans h.f2, Nat.lt_of_lt_of_le h.lt hb.size⟩
theorem QC.new (w : World) (e : TypeId) : QC (w.alloc (.cells #[.int .u64 0, .int .u64 0, .int .i64 0] e)) w.heap.size :=
  ⟨by rw [World.cell?_alloc_at _ _ _ _ rfl]; rfl, by rw [World.cell?_alloc_at _ _ _ _ rfl]; rfl, by rw [World.cell?_alloc_at _ _ _ _ rfl]; rfl, World.frozen?_alloc_at _ _ _ _ rfl, World.frozen?_alloc_at _ _ _ _ rfl, World.frozen?_alloc_at _ _ _ _ rfl, by simp⟩
theorem QC.of_drew {w w1 : World} {e : TypeId} (h : Below (w.alloc (.cells #[.int .u64 0, .int .u64 0, .int .i64 0] e)).drew.heap.size (w.alloc (.cells #[.int .u64 0, .int .u64 0, .int .i64 0] e)).drew w1) : QC w1 w.heap.size := (QC.new w e).keep (drew_belowR h)
theorem QC.of_alloc {w w1 : World} {e : TypeId} (h : Below (w.alloc (.cells #[.int .u64 0, .int .u64 0, .int .i64 0] e)).heap.size (w.alloc (.cells #[.int .u64 0, .int .u64 0, .int .i64 0] e)) w1) : QC w1 w.heap.size := (QC.new w e).keep h
theorem alloc_belowR {w w1 : World} {o : Obj} (h : Below (w.alloc o).heap.size (w.alloc o) w1) : Below w.heap.size w w1 := (Below.alloc (Below.refl _ _) (Nat.le_refl _) _).trans (h.mono (by simp))
theorem allocd_belowR {w w1 : World} {o : Obj} (h : Below (w.alloc o).drew.heap.size (w.alloc o).drew w1) : Below w.heap.size w w1 := alloc_belowR (drew_belowR h)

theorem CmpCut.of_set {w w2 : World} {Q : Nat} {z g : Int} (hb : Below w.heap.size w w2) (h : QC w2 Q) (hQ : w.heap.size ≤ Q) : CmpCut w (((w2.setCell ⟨Q, 0, none⟩ (.int .u64 (wH z))).setCell ⟨Q, 1, none⟩ (.int .u64 (wL z))).setCell ⟨Q, 2, none⟩ (.int .i64 g)) (.pointer (some ⟨Q, 0, none⟩)) z g := by
  refine ⟨Q, rfl, ?_, ?_, Below.setCell (Below.setCell (Below.setCell hb hQ _) hQ _) hQ _⟩
  · rw [cellOther (Or.inr (by decide)), cellOther (Or.inr (by decide))]; exact cellSame h.c0
  · rw [cellOther (Or.inr (by decide))]
    refine cellSame (u := .int .u64 0) ?_
    rw [cellOther (Or.inr (by decide))]; exact h.c1

set_option maxHeartbeats 2000000 in
set_option maxRecDepth 100000 in
theorem cmp1_any (A B : Nat) (na da nb db : Int) (w : World) (ha : OkR na da) (hb : OkR nb db) (la : A < w.heap.size) (lb : B < w.heap.size) (a0 : w.cell? ⟨A, 0, none⟩ = some (.int .i64 na)) (a1 : w.cell? ⟨A, 1, none⟩ = some (.int .i64 da)) (b0 : w.cell? ⟨B, 0, none⟩ = some (.int .i64 nb)) (b1 : w.cell? ⟨B, 1, none⟩ = some (.int .i64 db)) :
    Calls Try.prog 69 #[.pointer (some ⟨A, 0, none⟩), .pointer (some ⟨B, 0, none⟩)] w fun e w' => e = .returned (.tuple #[.int .i64 (cmpS na da nb db), .int .i64 0]) ∧ Below w.heap.size w w' := by
  have HK := Lib.hid (Cap2.mk a0 a1 b0 b1 (Below.refl _ _) la lb)
  have HO := Lib.hid (fun w => opposite_any nb db w hb.n0 hb.n1)
  have HC := Lib.hid (fun w => cross_any na da (-nb) db w ha hb.opp)
  obtain ⟨z0, z1⟩ := crossZ_lim ha hb.opp
  have hs := cross_sign ha hb
  rw [← hs]
  generalize crossZ na da (-nb) db = z at *
  generalize crossG da db = g at *
  have HSg := Lib.hid (fun Q W c0 c1 => wsign_any Q z W z0 z1 c0 c1)
  clear hs ha hb z0 z1
  go_enter Try.func69, Try.ntmps69
  go_wp2_with fail
  go_cut [4] (fun t wx => CmpCut w wx t z g)
  case first =>
    go_region_with (first | (go_at_call 56; refine (HO.out _).mono ?_; rintro e w1 ⟨rfl, hb1⟩; (first | (have HK1 := Lib.hid (HK.out.keep (drew_belowR hb1))) | (have HK1 := Lib.hid (HK.out.keep (allocd_belowR hb1)); have HQ1 := Lib.hid (QC.of_drew hb1))); obtain ⟨a0', a1', b0', b1', _, _, _⟩ := id HK1.out; have la1 := Nat.lt_of_lt_of_le la HK1.out.bel.size; have lb1 := Nat.lt_of_lt_of_le lb HK1.out.bel.size; clear hb1) | (go_at_call 70; refine (HC.out _).mono ?_; rintro e w2 ⟨rfl, hb2⟩; (first | (have HQ2 := Lib.hid (HQ1.out.keep hb2); have HK2 := Lib.hid (HK1.out.keep hb2); obtain ⟨q0, q1, q2, g0, g1, g2, _⟩ := id HQ2.out) | (have HK2 := Lib.hid (HK1.out.keep hb2)) | (have HQ2 := Lib.hid (QC.of_alloc hb2); have HK2 := Lib.hid (HK1.out.keep (alloc_belowR hb2)); obtain ⟨q0, q1, q2, g0, g1, g2, _⟩ := id HQ2.out)); clear hb2))
    all_goals go_wp2
    all_goals go_meet
    all_goals (first | exact ⟨_, rfl, by rw [World.cell?_alloc_at _ _ _ _ rfl]; rfl, by rw [World.cell?_alloc_at _ _ _ _ rfl]; rfl, Below.alloc HK2.out.bel HK2.out.bel.size _⟩ | exact CmpCut.of_set HK2.out.bel HQ2.out (Nat.le_refl _) | exact CmpCut.of_set HK2.out.bel HQ2.out HK1.out.bel.size)
  case rest =>
    obtain ⟨Q, rfl, c0, c1, hbel⟩ := hcut
    rename_i wc
    have HBel := Lib.hid hbel
    clear hbel
    go_wp2_with fail
    refine (HSg.out Q _ c0 c1).mono ?_
    rintro e w' ⟨rfl, rfl⟩
    go_wp2_with fail
    go_ret2
    exact ⟨rfl, HBel.out⟩

set_option maxHeartbeats 2000000 in
set_option maxRecDepth 100000 in
theorem compare_anyR (na da nb db : Int) (w : World) (na0 : -9223372036854775808 ≤ na) (na1 : na ≤ 9223372036854775807) (da0 : -9223372036854775808 ≤ da) (da1 : da ≤ 9223372036854775807)
    (nb0 : -9223372036854775808 ≤ nb) (nb1 : nb ≤ 9223372036854775807) (db0 : -9223372036854775808 ≤ db) (db1 : db ≤ 9223372036854775807) :
    Calls Try.prog 35 #[.agg #[.int .i64 na, .int .i64 da], .agg #[.int .i64 nb, .int .i64 db]] w fun e w' => e = .returned (.tuple #[.int .i64 (if bothE na da nb db = 0 then cmpS na da nb db else 0), .int .i64 (bothE na da nb db)]) ∧ Below w.heap.size w w' := by
  have hmf : ∀ (fn : Fn) (first cap : Array Value) (w : World), (Instr.makeFunc fn first cap).run Try.prog w = .ok (.func fn first cap) w := fun _ _ _ _ => rfl
  have HBo := Lib.hid (fun (W : World) (HB : BoxAB w W na da nb db) => bothI_any na da nb db (if bothE na da nb db = 0 then cmpS na da nb db else 0) (bothE na da nb db) 69 #[.pointer (some ⟨w.heap.size, 0, none⟩), .pointer (some ⟨w.heap.size + 1, 0, none⟩)] W na0 na1 da0 da1 nb0 nb1 db0 db1
    (fun hz W' hW => by
      obtain ⟨ha, hb⟩ := bothE_ok hz na0 na1 da1 nb0 nb1 db1
      have HB' := HB.keep hW
      rw [if_pos hz, hz]
      exact cmp1_any _ _ na da nb db W' ha hb (by have := HB'.sz; omega) (by have := HB'.sz; omega) HB'.a0 HB'.a1 HB'.b0 HB'.b1)
    (fun W' => by rfl)
    (fun hz => ⟨if_neg hz, rfl⟩))
  generalize (if bothE na da nb db = 0 then cmpS na da nb db else 0) = x at *
  generalize bothE na da nb db = c at *
  go_enter Try.func35, Try.ntmps35
  go_wp2_with fail
  refine (HBo.out _ (BoxAB.start w na da nb db 42)).mono ?_
  rintro e w1 ⟨rfl, hb1⟩
  have HB := Lib.hid ((BoxAB.start w na da nb db 42).keep hb1)
  clear hb1 HBo
  go_wp2_with fail
  go_ret2
  exact ⟨rfl, HB.out.bel⟩

end Go.Proofs.Ytljhjjkbpckkjaa

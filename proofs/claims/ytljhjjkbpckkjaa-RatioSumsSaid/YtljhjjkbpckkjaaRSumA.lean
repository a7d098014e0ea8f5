/-
  chattellaw02.RatioSums's walk where both ratios may be.
-/
import Derived.Test.YtljhjjkbpckkjaaRSumE
import Derived.Test.YtljhjjkbpckkjaaRefS
import Derived.Deep.RegionWith
import Derived.Deep.DeepCutAuto
namespace Go.Proofs.Ytljhjjkbpckkjaa
open Go.RowKit
set_option linter.unusedVariables false

theorem allocS {w w1 : World} {o : Obj} (h : Below (w.alloc o).heap.size (w.alloc o) w1) : Below w.heap.size w w1 := (Below.alloc (Below.refl _ _) (Nat.le_refl _) _).trans (h.mono (by simp))
theorem allocdS {w w1 : World} {o : Obj} (h : Below (w.alloc o).drew.heap.size (w.alloc o).drew w1) : Below w.heap.size w w1 := allocS (undrewB h)
/-- A block of two numbers that are nought yet. -/
structure QI (wx : World) (Q : Nat) : Prop where
  c0 : wx.cell? ⟨Q, 0, none⟩ = some (.int .i64 0)
  c1 : wx.cell? ⟨Q, 1, none⟩ = some (.int .i64 0)
  f0 : wx.frozen? ⟨Q, 0, none⟩ = false
  f1 : wx.frozen? ⟨Q, 1, none⟩ = false
  lt : Q < wx.heap.size
theorem QI.keep {wx w1 : World} {Q : Nat} (h : QI wx Q) (hb : Below wx.heap.size wx w1) : QI w1 Q := by
  have hc : ∀ i, w1.cell? ⟨Q, i, none⟩ = wx.cell? ⟨Q, i, none⟩ := fun i => hb.cell (p := ⟨Q, i, none⟩) h.lt
  have hf : ∀ i, w1.frozen? ⟨Q, i, none⟩ = wx.frozen? ⟨Q, i, none⟩ := fun i => hb.frozen (p := ⟨Q, i, none⟩) h.lt
  exact ⟨(hc _).trans h.c0, (hc _).trans h.c1, (hf _).trans h.f0, (hf _).trans h.f1, Nat.lt_of_lt_of_le h.lt hb.size⟩
theorem QI.new (w : World) (e : TypeId) : QI (w.alloc (.cells #[.int .i64 0, .int .i64 0] e)) w.heap.size :=
  ⟨new_at rfl, new_at rfl, World.frozen?_alloc_at _ _ _ _ rfl, World.frozen?_alloc_at _ _ _ _ rfl, by simp⟩
theorem QI.of_drew {w w1 : World} {e : TypeId} (h : Below (w.alloc (.cells #[.int .i64 0, .int .i64 0] e)).drew.heap.size (w.alloc (.cells #[.int .i64 0, .int .i64 0] e)).drew w1) : QI w1 w.heap.size := (QI.new w e).keep (undrewB h)
theorem QI.of_drewA {w w1 : World} {e : TypeId} (h : Below (w.drew.alloc (.cells #[.int .i64 0, .int .i64 0] e)).heap.size (w.drew.alloc (.cells #[.int .i64 0, .int .i64 0] e)) w1) : QI w1 w.heap.size := (QI.new w.drew e).keep h
theorem QI.of_alloc {w w1 : World} {e : TypeId} (h : Below (w.alloc (.cells #[.int .i64 0, .int .i64 0] e)).heap.size (w.alloc (.cells #[.int .i64 0, .int .i64 0] e)) w1) : QI w1 w.heap.size := (QI.new w e).keep h

/-- A ratio, in a new block beside the others; numbers that are kept. -/
def SumCut (w wx : World) (L : List (Nat × List Value)) (t u : Value) (n d e : Int) (vx vy : Value) (na da nb db : Int) : Prop := ∃ Q : Nat, t = .pointer (some ⟨Q, 0, none⟩) ∧ u = .int .i64 e ∧ HeldV w wx ((Q, [.int .i64 n, .int .i64 d]) :: L) ∧ BigQ wx vx na da ∧ BigQ wx vy nb db
theorem SumCut.of_new {w W w3 : World} {L : List (Nat × List Value)} {n d e : Int} {vx vy : Value} {na da nb db : Int} {ty : TypeId} (h : HeldV w W L) (hb : Below W.heap.size W w3) (hx : BigQ W vx na da) (hy : BigQ W vy nb db) : SumCut w (w3.alloc (.cells #[.int .i64 n, .int .i64 d] ty)) L (.pointer (some ⟨w3.heap.size, 0, none⟩)) (.int .i64 e) n d e vx vy na da nb db :=
  have hb' := Below.alloc hb hb.size (.cells #[.int .i64 n, .int .i64 d] ty)
  ⟨_, rfl, rfl, (h.keep hb).push [.int .i64 n, .int .i64 d] ty, hx.keep hb', hy.keep hb'⟩
theorem SumCut.of_set {w W w3 : World} {Q : Nat} {L : List (Nat × List Value)} {n d e : Int} {vx vy : Value} {na da nb db : Int} (h : HeldV w W L) (hb : Below W.heap.size W w3) (q : QI w3 Q) (hQ : W.heap.size ≤ Q) (hx : BigQ W vx na da) (hy : BigQ W vy nb db) : SumCut w ((w3.setCell ⟨Q, 0, none⟩ (.int .i64 n)).setCell ⟨Q, 1, none⟩ (.int .i64 d)) L (.pointer (some ⟨Q, 0, none⟩)) (.int .i64 e) n d e vx vy na da nb db := by
  have hb' : Below W.heap.size W ((w3.setCell ⟨Q, 0, none⟩ (.int .i64 n)).setCell ⟨Q, 1, none⟩ (.int .i64 d)) := Below.setCell (Below.setCell hb hQ _) hQ _
  have hk := h.keep hb'
  have e1 : (w3.setCell ⟨Q, 0, none⟩ (.int .i64 n)).cell? ⟨Q, 1, none⟩ = some (.int .i64 0) := by rw [cell_other (by intro e; simp at e)]; exact q.c1
  refine ⟨Q, rfl, rfl, ⟨hk.bel, fun t ht => ?_⟩, hx.keep hb', hy.keep hb'⟩
  rcases List.mem_cons.1 ht with rfl | ht
  · refine ⟨by simpa using q.lt, Nat.le_trans h.bel.size hQ, fun i v hv => ?_⟩
    match i, hv with
    | 0, hv => 
      obtain rfl : Value.int .i64 n = v := by simpa using hv
      exact ⟨by rw [cell_other (by intro e; simp at e)]; exact cell_same q.c0, by simpa using q.f0⟩
    | 1, hv =>
      obtain rfl : Value.int .i64 d = v := by simpa using hv
      exact ⟨cell_same e1, by simpa using q.f1⟩
    | i + 2, hv => simp at hv
  · exact hk.all t ht
theorem acd {w : World} {o : Obj} {b i : Nat} (h : b < w.heap.size) : (w.alloc o).drew.cell? ⟨b, i, none⟩ = w.cell? ⟨b, i, none⟩ := World.cell?_alloc_past _ _ _ h
theorem ac {w : World} {o : Obj} {b i : Nat} (h : b < w.heap.size) : (w.alloc o).cell? ⟨b, i, none⟩ = w.cell? ⟨b, i, none⟩ := World.cell?_alloc_past _ _ _ h
theorem two_other {w : World} {Q b i : Nat} {x0 x1 : Value} (h : Q ≠ b) : ((w.setCell ⟨Q, 0, none⟩ x0).setCell ⟨Q, 1, none⟩ x1).cell? ⟨b, i, none⟩ = w.cell? ⟨b, i, none⟩ := by
  rw [cell_other (by intro e; injection e with e1 e2; exact h e1), cell_other (by intro e; injection e with e1 e2; exact h e1)]

set_option maxHeartbeats 8000000 in
set_option maxRecDepth 100000 in
theorem sums_ok (na da nb db S1 S2 Se D1 D2 De P1 P2 Pe Q1 Q2 Qe mb X1 Y1 X2 Y2 X3 Y3 : Int) (w : World)
    (hs : RC 27 na da nb db S1 S2 Se) (hd : RC 28 na da nb db D1 D2 De) (hp : RC 29 na da nb db P1 P2 Pe) (hq : RC 30 na da nb db Q1 Q2 Qe) (hca : CR na da 0) (hcb : CR nb db 0)
    (hoa : ∀ w, Calls Try.prog 26 #[.agg #[.int .i64 na, .int .i64 da]] w fun e w' => (∃ v, e = .returned v ∧ BigQ w' v na da) ∧ Below w.heap.size w w')
    (hob : ∀ w, Calls Try.prog 26 #[.agg #[.int .i64 nb, .int .i64 db]] w fun e w' => (∃ v, e = .returned v ∧ BigQ w' v nb db) ∧ Below w.heap.size w w')
    (ha1 : ∀ v v' w, BigQ w v na da → BigQ w v' nb db → Calls Try.prog 31 #[v, v'] w fun e w' => (∃ v, e = .returned v ∧ BigQ w' v X1 Y1) ∧ Below w.heap.size w w')
    (hr1 : ∀ v w, BigQ w v X1 Y1 → Calls Try.prog 25 #[v] w fun r w' => r = .returned (.tuple #[.agg #[.int .i64 S1, .int .i64 S2], .int .i64 Se]) ∧ Below w.heap.size w w')
    (hn : ∀ v w, BigQ w v nb db → Calls Try.prog 32 #[v] w fun e w' => (∃ v, e = .returned v ∧ BigQ w' v mb db) ∧ Below w.heap.size w w')
    (ha2 : ∀ v v' w, BigQ w v na da → BigQ w v' mb db → Calls Try.prog 31 #[v, v'] w fun e w' => (∃ v, e = .returned v ∧ BigQ w' v X2 Y2) ∧ Below w.heap.size w w')
    (hr2 : ∀ v w, BigQ w v X2 Y2 → Calls Try.prog 25 #[v] w fun r w' => r = .returned (.tuple #[.agg #[.int .i64 D1, .int .i64 D2], .int .i64 De]) ∧ Below w.heap.size w w')
    (hm : ∀ v v' w, BigQ w v na da → BigQ w v' nb db → Calls Try.prog 33 #[v, v'] w fun e w' => (∃ v, e = .returned v ∧ BigQ w' v X3 Y3) ∧ Below w.heap.size w w')
    (hr3 : ∀ v w, BigQ w v X3 Y3 → Calls Try.prog 25 #[v] w fun r w' => r = .returned (.tuple #[.agg #[.int .i64 P1, .int .i64 P2], .int .i64 Pe]) ∧ Below w.heap.size w w')
    (hz : nb = 0 → Q1 = 0 ∧ Q2 = 0 ∧ Qe = 12)
    (hnz : nb ≠ 0 → ∃ X4 Y4 : Int, (∀ v w, BigQ w v nb db → Calls Try.prog 34 #[v] w fun e w' => (∃ v, e = .returned v ∧ BigQ w' v db nb) ∧ Below w.heap.size w w') ∧
      (∀ v v' w, BigQ w v na da → BigQ w v' db nb → Calls Try.prog 33 #[v, v'] w fun e w' => (∃ v, e = .returned v ∧ BigQ w' v X4 Y4) ∧ Below w.heap.size w w') ∧
      ∀ v w, BigQ w v X4 Y4 → Calls Try.prog 25 #[v] w fun r w' => r = .returned (.tuple #[.agg #[.int .i64 Q1, .int .i64 Q2], .int .i64 Qe]) ∧ Below w.heap.size w w') :
    Calls Try.prog 6 #[.agg #[.int .i64 na, .int .i64 da], .agg #[.int .i64 nb, .int .i64 db]] w fun e w' => e = .returned (.bool true) ∧ Below w.heap.size w w' := by
  have Hhs := Lib.hid hs
  have Hhd := Lib.hid hd
  have Hhp := Lib.hid hp
  have Hhq := Lib.hid hq
  have Hhca := Lib.hid hca
  have Hhcb := Lib.hid hcb
  have Hhoa := Lib.hid hoa
  have Hhob := Lib.hid hob
  have Hha1 := Lib.hid ha1
  have Hhr1 := Lib.hid hr1
  have Hhn := Lib.hid hn
  have Hha2 := Lib.hid ha2
  have Hhr2 := Lib.hid hr2
  have Hhm := Lib.hid hm
  have Hhr3 := Lib.hid hr3
  have Hhz := Lib.hid hz
  have Hhnz := Lib.hid hnz
  clear hs hd hp hq hca hcb hoa hob ha1 hr1 hn ha2 hr2 hm hr3 hz hnz
  go_enter Try.func6, Try.ntmps6
  go_wp2_with fail
  refine (Hhs.out _).mono ?_
  rintro r w1 ⟨rfl, hb⟩
  have K1 := Lib.hid ((HeldV.two w [.int .i64 na, .int .i64 da] [.int .i64 nb, .int .i64 db] 42 42).keep hb)
  clear hb
  have l_a := K1.out.lt 1 rfl
  obtain ⟨c_a0, _⟩ := K1.out.get 1 rfl 0 rfl
  obtain ⟨c_a1, _⟩ := K1.out.get 1 rfl 1 rfl
  have l_b := K1.out.lt 0 rfl
  obtain ⟨c_b0, _⟩ := K1.out.get 0 rfl 0 rfl
  obtain ⟨c_b1, _⟩ := K1.out.get 0 rfl 1 rfl
  go_wp2_with fail
  refine (Hhd.out _).mono ?_
  rintro r w2 ⟨rfl, hb⟩
  have K2 := Lib.hid ((K1.out.push [.int .i64 S1, .int .i64 S2] 42).keep hb)
  clear hb
  clear l_a c_a0 c_a1 l_b c_b0 c_b1
  have l_a := K2.out.lt 2 rfl
  obtain ⟨c_a0, _⟩ := K2.out.get 2 rfl 0 rfl
  obtain ⟨c_a1, _⟩ := K2.out.get 2 rfl 1 rfl
  have l_b := K2.out.lt 1 rfl
  obtain ⟨c_b0, _⟩ := K2.out.get 1 rfl 0 rfl
  obtain ⟨c_b1, _⟩ := K2.out.get 1 rfl 1 rfl
  go_wp2_with fail
  refine (Hhp.out _).mono ?_
  rintro r w3 ⟨rfl, hb⟩
  have K3 := Lib.hid ((K2.out.push [.int .i64 D1, .int .i64 D2] 42).keep hb)
  clear hb
  clear l_a c_a0 c_a1 l_b c_b0 c_b1
  have l_a := K3.out.lt 3 rfl
  obtain ⟨c_a0, _⟩ := K3.out.get 3 rfl 0 rfl
  obtain ⟨c_a1, _⟩ := K3.out.get 3 rfl 1 rfl
  have l_b := K3.out.lt 2 rfl
  obtain ⟨c_b0, _⟩ := K3.out.get 2 rfl 0 rfl
  obtain ⟨c_b1, _⟩ := K3.out.get 2 rfl 1 rfl
  go_wp2_with fail
  refine (Hhq.out _).mono ?_
  rintro r w4 ⟨rfl, hb⟩
  have K4 := Lib.hid ((K3.out.push [.int .i64 P1, .int .i64 P2] 42).keep hb)
  clear hb
  clear l_a c_a0 c_a1 l_b c_b0 c_b1
  have l_a := K4.out.lt 4 rfl
  obtain ⟨c_a0, _⟩ := K4.out.get 4 rfl 0 rfl
  obtain ⟨c_a1, _⟩ := K4.out.get 4 rfl 1 rfl
  have l_b := K4.out.lt 3 rfl
  obtain ⟨c_b0, _⟩ := K4.out.get 3 rfl 0 rfl
  obtain ⟨c_b1, _⟩ := K4.out.get 3 rfl 1 rfl
  go_wp2_with fail
  refine (Hhca.out _).mono ?_
  rintro r w5 ⟨rfl, hb⟩
  have K5 := Lib.hid ((K4.out.push [.int .i64 Q1, .int .i64 Q2] 42).keep hb)
  clear hb
  clear l_a c_a0 c_a1 l_b c_b0 c_b1
  have l_a := K5.out.lt 5 rfl
  obtain ⟨c_a0, _⟩ := K5.out.get 5 rfl 0 rfl
  obtain ⟨c_a1, _⟩ := K5.out.get 5 rfl 1 rfl
  have l_b := K5.out.lt 4 rfl
  obtain ⟨c_b0, _⟩ := K5.out.get 4 rfl 0 rfl
  obtain ⟨c_b1, _⟩ := K5.out.get 4 rfl 1 rfl
  go_wp2_with fail
  refine (Hhcb.out _).mono ?_
  rintro r w6 ⟨rfl, hb⟩
  have K6 := Lib.hid (K5.out.keep hb)
  clear hb
  clear l_a c_a0 c_a1 l_b c_b0 c_b1
  have l_a := K6.out.lt 5 rfl
  obtain ⟨c_a0, _⟩ := K6.out.get 5 rfl 0 rfl
  obtain ⟨c_a1, _⟩ := K6.out.get 5 rfl 1 rfl
  have l_b := K6.out.lt 4 rfl
  obtain ⟨c_b0, _⟩ := K6.out.get 4 rfl 0 rfl
  obtain ⟨c_b1, _⟩ := K6.out.get 4 rfl 1 rfl
  go_wp2_with fail
  refine (Hhoa.out _).mono ?_
  rintro r w7 ⟨⟨v, rfl, hv⟩, hb⟩
  have K7 := Lib.hid ((K6.out.push [.int .i64 0, .int .i64 0] 42).keep hb)
  obtain ⟨sn, an, kn, cn, sd, ad, kd, cd, rfl, _, _, e1, e2⟩ := id hv.parts
  clear e1 e2
  have QX := Lib.hid hv
  clear hv
  clear hb
  clear l_a c_a0 c_a1 l_b c_b0 c_b1
  have l_b := K7.out.lt 5 rfl
  obtain ⟨c_b0, _⟩ := K7.out.get 5 rfl 0 rfl
  obtain ⟨c_b1, _⟩ := K7.out.get 5 rfl 1 rfl
  go_wp2_with fail
  refine (Hhob.out _).mono ?_
  rintro r w8 ⟨⟨v, rfl, hv⟩, hb⟩
  have K8 := Lib.hid ((K7.out.push [.bool sn, .slice an kn cn, .bool sd, .slice ad kd cd] 48).keep hb)
  obtain ⟨tn, bn, jn, en, td, bd, jd, ed, rfl, _, _, e1, e2⟩ := id hv.parts
  clear e1 e2
  have QY := Lib.hid hv
  have QX1 := Lib.hid ((QX.out.keep (Below.alloc (Below.refl _ _) (Nat.le_refl _) _)).keep hb)
  clear hv QX
  clear hb
  clear l_b c_b0 c_b1
  have l_x := K8.out.lt 0 rfl
  obtain ⟨c_x0, _⟩ := K8.out.get 0 rfl 0 rfl
  obtain ⟨c_x1, _⟩ := K8.out.get 0 rfl 1 rfl
  obtain ⟨c_x2, _⟩ := K8.out.get 0 rfl 2 rfl
  obtain ⟨c_x3, _⟩ := K8.out.get 0 rfl 3 rfl
  go_wp2_with fail
  refine (Hha1.out _ _ _ (QX1.out.keep (Below.alloc (Below.refl _ _) (Nat.le_refl _) _)) (QY.out.keep (Below.alloc (Below.refl _ _) (Nat.le_refl _) _))).mono ?_
  rintro r w9 ⟨⟨v, rfl, hv⟩, hb⟩
  have K9 := Lib.hid ((K8.out.push [.bool tn, .slice bn jn en, .bool td, .slice bd jd ed] 48).keep hb)
  have V := Lib.hid hv
  have QX2 := Lib.hid ((QX1.out.keep (Below.alloc (Below.refl _ _) (Nat.le_refl _) _)).keep hb)
  have QY2 := Lib.hid ((QY.out.keep (Below.alloc (Below.refl _ _) (Nat.le_refl _) _)).keep hb)
  clear hv QX1 QY
  clear hb
  clear l_x c_x0 c_x1 c_x2 c_x3
  go_wp2_with fail
  refine (Hhr1.out _ _ V.out).mono ?_
  rintro r w10 ⟨rfl, hb⟩
  have K10 := Lib.hid (K9.out.keep hb)
  have QX3 := Lib.hid (QX2.out.keep hb)
  have QY3 := Lib.hid (QY2.out.keep hb)
  clear V QX2 QY2
  clear hb
  have l_x := K10.out.lt 1 rfl
  obtain ⟨c_x0, _⟩ := K10.out.get 1 rfl 0 rfl
  obtain ⟨c_x1, _⟩ := K10.out.get 1 rfl 1 rfl
  obtain ⟨c_x2, _⟩ := K10.out.get 1 rfl 2 rfl
  obtain ⟨c_x3, _⟩ := K10.out.get 1 rfl 3 rfl
  have l_y := K10.out.lt 0 rfl
  obtain ⟨c_y0, _⟩ := K10.out.get 0 rfl 0 rfl
  obtain ⟨c_y1, _⟩ := K10.out.get 0 rfl 1 rfl
  obtain ⟨c_y2, _⟩ := K10.out.get 0 rfl 2 rfl
  obtain ⟨c_y3, _⟩ := K10.out.get 0 rfl 3 rfl
  go_upto_region 14 with fail
  have KAM := Lib.hid (K10.out.push [.int .i64 S1, .int .i64 S2] 42)
  have QXA := Lib.hid (QX3.out.keep (Below.alloc (Below.refl _ _) (Nat.le_refl _) (.cells #[.int .i64 S1, .int .i64 S2] 42)))
  have QYA := Lib.hid (QY3.out.keep (Below.alloc (Below.refl _ _) (Nat.le_refl _) (.cells #[.int .i64 S1, .int .i64 S2] 42)))
  clear QX3 QY3
  generalize w10.alloc (.cells #[.int .i64 S1, .int .i64 S2] 42) = WM at KAM QXA QYA ⊢
  clear l_x c_x0 c_x1 c_x2 c_x3 l_y c_y0 c_y1 c_y2 c_y3
  have l_x := KAM.out.lt 2 rfl
  obtain ⟨c_x0, _⟩ := KAM.out.get 2 rfl 0 rfl
  obtain ⟨c_x1, _⟩ := KAM.out.get 2 rfl 1 rfl
  obtain ⟨c_x2, _⟩ := KAM.out.get 2 rfl 2 rfl
  obtain ⟨c_x3, _⟩ := KAM.out.get 2 rfl 3 rfl
  have l_y := KAM.out.lt 1 rfl
  obtain ⟨c_y0, _⟩ := KAM.out.get 1 rfl 0 rfl
  obtain ⟨c_y1, _⟩ := KAM.out.get 1 rfl 1 rfl
  obtain ⟨c_y2, _⟩ := KAM.out.get 1 rfl 2 rfl
  obtain ⟨c_y3, _⟩ := KAM.out.get 1 rfl 3 rfl
  go_cut [19, 20] (fun t u wx => SumCut w wx [(w10.heap.size, [.int .i64 S1, .int .i64 S2]), (w8.heap.size, [.bool tn, .slice bn jn en, .bool td, .slice bd jd ed]), (w7.heap.size, [.bool sn, .slice an kn cn, .bool sd, .slice ad kd cd]), (w6.heap.size, [.int .i64 0, .int .i64 0]), (w4.heap.size, [.int .i64 Q1, .int .i64 Q2]), (w3.heap.size, [.int .i64 P1, .int .i64 P2]), (w2.heap.size, [.int .i64 D1, .int .i64 D2]), (w1.heap.size, [.int .i64 S1, .int .i64 S2]), (w.heap.size + 1, [.int .i64 nb, .int .i64 db]), (w.heap.size, [.int .i64 na, .int .i64 da])] t u D1 D2 De (.agg #[.bool sn, .slice an kn cn, .bool sd, .slice ad kd cd]) (.agg #[.bool tn, .slice bn jn en, .bool td, .slice bd jd ed]) na da nb db)
  case first => as_aux_lemma =>
    have HN1 := Lib.hid (Hhn.out _ WM.drew (QYA.out.keep (Below.drew (Below.refl _ _))))
    have HN2 := Lib.hid (fun o => Hhn.out _ (WM.alloc o).drew (QYA.out.keep (Below.drew (Below.alloc (Below.refl _ _) (Nat.le_refl _) o))))
    have HAx := Lib.hid (fun (u : World) v (hb : Below WM.heap.size WM u) (hv : BigQ u v mb db) => Hha2.out _ _ u (QXA.out.keep hb) hv)
    have HAy := Lib.hid (fun (u : World) v (o : Obj) (hb : Below WM.heap.size WM u) (hv : BigQ u v mb db) => Hha2.out _ _ (u.alloc o) ((QXA.out.keep hb).keep (Below.alloc (Below.refl _ _) (Nat.le_refl _) o)) (hv.keep (Below.alloc (Below.refl _ _) (Nat.le_refl _) o)))
    have HN3 := Lib.hid (fun o => Hhn.out _ (WM.drew.alloc o) (QYA.out.keep (Below.alloc (Below.drew (Below.refl _ _)) (Nat.le_refl _) o)))
    go_region_held3 (fun w' => w'.cell? ⟨w7.heap.size, 0, none⟩ = some (.bool sn) ∧ w'.cell? ⟨w7.heap.size, 1, none⟩ = some (.slice an kn cn) ∧ w'.cell? ⟨w7.heap.size, 2, none⟩ = some (.bool sd) ∧ w'.cell? ⟨w7.heap.size, 3, none⟩ = some (.slice ad kd cd) ∧ w'.cell? ⟨w8.heap.size, 0, none⟩ = some (.bool tn) ∧ w'.cell? ⟨w8.heap.size, 1, none⟩ = some (.slice bn jn en) ∧ w'.cell? ⟨w8.heap.size, 2, none⟩ = some (.bool td) ∧ w'.cell? ⟨w8.heap.size, 3, none⟩ = some (.slice bd jd ed))
      (first | (with_reducible exact ⟨c_x0', c_x1', c_x2', c_x3', c_y0', c_y1', c_y2', c_y3'⟩) | (with_reducible exact ⟨(acd (by omega)).trans c_x0, (acd (by omega)).trans c_x1, (acd (by omega)).trans c_x2, (acd (by omega)).trans c_x3, (acd (by omega)).trans c_y0, (acd (by omega)).trans c_y1, (acd (by omega)).trans c_y2, (acd (by omega)).trans c_y3⟩) | (with_reducible exact ⟨(ac (by omega)).trans c_x0', (ac (by omega)).trans c_x1', (ac (by omega)).trans c_x2', (ac (by omega)).trans c_x3', (ac (by omega)).trans c_y0', (ac (by omega)).trans c_y1', (ac (by omega)).trans c_y2', (ac (by omega)).trans c_y3'⟩) | (with_reducible exact ⟨(two_other (by omega)).trans c_x0', (two_other (by omega)).trans c_x1', (two_other (by omega)).trans c_x2', (two_other (by omega)).trans c_x3', (two_other (by omega)).trans c_y0', (two_other (by omega)).trans c_y1', (two_other (by omega)).trans c_y2', (two_other (by omega)).trans c_y3'⟩) | go_keep)
      (first | (go_at_call 32; (first | (with_reducible refine HN1.out.mono ?_) | (with_reducible refine (HN2.out _).mono ?_) | (with_reducible refine (HN3.out _).mono ?_)); rintro r u1 ⟨⟨v1, rfl, hv1⟩, hb1⟩; (first | (have B1 : Hid (Below WM.heap.size WM u1) := Lib.hid (undrewB hb1)) | (have B1 : Hid (Below WM.heap.size WM u1) := Lib.hid (allocdS hb1); have HQ1 := Lib.hid (QI.of_drew hb1)) | (have B1 : Hid (Below WM.heap.size WM u1) := Lib.hid (undrewB (allocS hb1)); have HQ1 := Lib.hid (QI.of_drewA hb1))); have J1 := Lib.hid (KAM.out.keep B1.out); obtain ⟨c_x0', _⟩ := J1.out.get 2 rfl 0 rfl; obtain ⟨c_x1', _⟩ := J1.out.get 2 rfl 1 rfl; obtain ⟨c_x2', _⟩ := J1.out.get 2 rfl 2 rfl; obtain ⟨c_x3', _⟩ := J1.out.get 2 rfl 3 rfl; obtain ⟨c_y0', _⟩ := J1.out.get 1 rfl 0 rfl; obtain ⟨c_y1', _⟩ := J1.out.get 1 rfl 1 rfl; obtain ⟨c_y2', _⟩ := J1.out.get 1 rfl 2 rfl; obtain ⟨c_y3', _⟩ := J1.out.get 1 rfl 3 rfl; have l_xJ1 := J1.out.lt 2 rfl; have l_yJ1 := J1.out.lt 1 rfl; have V1 := Lib.hid hv1; clear hv1 hb1) | (go_at_call 31; (first | (with_reducible refine (HAx.out _ _ B1.out V1.out).mono ?_) | (with_reducible refine (HAy.out _ _ _ B1.out V1.out).mono ?_)); rintro r u2 ⟨⟨v2, rfl, hv2⟩, hb2⟩; (first | (have HQ2 := Lib.hid (HQ1.out.keep hb2); have B2 := Lib.hid (B1.out.trans (hb2.mono B1.out.size))) | (have B2 := Lib.hid (B1.out.trans (hb2.mono B1.out.size))) | (have HQ2 := Lib.hid (QI.of_alloc hb2); have B2 := Lib.hid (B1.out.trans ((allocS hb2).mono B1.out.size)))); have J2 := Lib.hid (KAM.out.keep B2.out); clear c_x0' c_x1' c_x2' c_x3' c_y0' c_y1' c_y2' c_y3'; obtain ⟨c_x0', _⟩ := J2.out.get 2 rfl 0 rfl; obtain ⟨c_x1', _⟩ := J2.out.get 2 rfl 1 rfl; obtain ⟨c_x2', _⟩ := J2.out.get 2 rfl 2 rfl; obtain ⟨c_x3', _⟩ := J2.out.get 2 rfl 3 rfl; obtain ⟨c_y0', _⟩ := J2.out.get 1 rfl 0 rfl; obtain ⟨c_y1', _⟩ := J2.out.get 1 rfl 1 rfl; obtain ⟨c_y2', _⟩ := J2.out.get 1 rfl 2 rfl; obtain ⟨c_y3', _⟩ := J2.out.get 1 rfl 3 rfl; have l_xJ2 := J2.out.lt 2 rfl; have l_yJ2 := J2.out.lt 1 rfl; have HR1 := Lib.hid (Hhr2.out _ u2 hv2); have HR2 := Lib.hid (fun o => Hhr2.out _ (u2.alloc o) (hv2.keep (Below.alloc (Below.refl _ _) (Nat.le_refl _) o))); clear hv2 hb2) | (go_at_call 25; (first | (with_reducible refine HR1.out.mono ?_) | (with_reducible refine (HR2.out _).mono ?_)); rintro r u3 ⟨rfl, hb3⟩; (first | (have HQ3 := Lib.hid (HQ2.out.keep hb3); have B3 := Lib.hid (B2.out.trans (hb3.mono B2.out.size)); obtain ⟨q0, q1, g0, g1, _⟩ := id HQ3.out) | (have B3 := Lib.hid (B2.out.trans (hb3.mono B2.out.size))) | (have HQ3 := Lib.hid (QI.of_alloc hb3); have B3 := Lib.hid (B2.out.trans ((allocS hb3).mono B2.out.size)); obtain ⟨q0, q1, g0, g1, _⟩ := id HQ3.out)); have J3 := Lib.hid (KAM.out.keep B3.out); clear c_x0' c_x1' c_x2' c_x3' c_y0' c_y1' c_y2' c_y3'; obtain ⟨c_x0', _⟩ := J3.out.get 2 rfl 0 rfl; obtain ⟨c_x1', _⟩ := J3.out.get 2 rfl 1 rfl; obtain ⟨c_x2', _⟩ := J3.out.get 2 rfl 2 rfl; obtain ⟨c_x3', _⟩ := J3.out.get 2 rfl 3 rfl; obtain ⟨c_y0', _⟩ := J3.out.get 1 rfl 0 rfl; obtain ⟨c_y1', _⟩ := J3.out.get 1 rfl 1 rfl; obtain ⟨c_y2', _⟩ := J3.out.get 1 rfl 2 rfl; obtain ⟨c_y3', _⟩ := J3.out.get 1 rfl 3 rfl; have l_xJ3 := J3.out.lt 2 rfl; have l_yJ3 := J3.out.lt 1 rfl; clear hb3))
    all_goals go_wp2
    all_goals go_meet
    all_goals (first | exact SumCut.of_new KAM.out B3.out QXA.out QYA.out | exact SumCut.of_set KAM.out B3.out HQ3.out (Nat.le_refl _) QXA.out QYA.out | exact SumCut.of_set KAM.out B3.out HQ3.out B1.out.size QXA.out QYA.out | exact SumCut.of_set KAM.out B3.out HQ3.out B2.out.size QXA.out QYA.out)
  case rest => as_aux_lemma =>
  obtain ⟨Qdd, rfl, rfl, hK, hqx, hqy⟩ := hcut
  have KCM := Lib.hid hK
  have QX3 := Lib.hid hqx
  have QY3 := Lib.hid hqy
  clear hK hqx hqy QXA QYA
  clear l_x c_x0 c_x1 c_x2 c_x3 l_y c_y0 c_y1 c_y2 c_y3
  have l_x := KCM.out.lt 3 rfl
  obtain ⟨c_x0, _⟩ := KCM.out.get 3 rfl 0 rfl
  obtain ⟨c_x1, _⟩ := KCM.out.get 3 rfl 1 rfl
  obtain ⟨c_x2, _⟩ := KCM.out.get 3 rfl 2 rfl
  obtain ⟨c_x3, _⟩ := KCM.out.get 3 rfl 3 rfl
  have l_y := KCM.out.lt 2 rfl
  obtain ⟨c_y0, _⟩ := KCM.out.get 2 rfl 0 rfl
  obtain ⟨c_y1, _⟩ := KCM.out.get 2 rfl 1 rfl
  obtain ⟨c_y2, _⟩ := KCM.out.get 2 rfl 2 rfl
  obtain ⟨c_y3, _⟩ := KCM.out.get 2 rfl 3 rfl
  go_wp2_with fail
  refine (Hhm.out _ _ _ QX3.out QY3.out).mono ?_
  rintro r w11 ⟨⟨v, rfl, hv⟩, hb⟩
  have K11 := Lib.hid (KCM.out.keep hb)
  have V := Lib.hid hv
  have QX4 := Lib.hid (QX3.out.keep hb)
  have QY4 := Lib.hid (QY3.out.keep hb)
  clear hv QX3 QY3
  clear hb
  clear l_x c_x0 c_x1 c_x2 c_x3 l_y c_y0 c_y1 c_y2 c_y3
  go_wp2_with fail
  refine (Hhr3.out _ _ V.out).mono ?_
  rintro r w12 ⟨rfl, hb⟩
  have K12 := Lib.hid (K11.out.keep hb)
  have QX3 := Lib.hid (QX4.out.keep hb)
  have QY3 := Lib.hid (QY4.out.keep hb)
  clear V QX4 QY4
  clear hb
  have l_s := K12.out.lt 8 rfl
  obtain ⟨c_s0, _⟩ := K12.out.get 8 rfl 0 rfl
  obtain ⟨c_s1, _⟩ := K12.out.get 8 rfl 1 rfl
  have l_d := K12.out.lt 7 rfl
  obtain ⟨c_d0, _⟩ := K12.out.get 7 rfl 0 rfl
  obtain ⟨c_d1, _⟩ := K12.out.get 7 rfl 1 rfl
  have l_p := K12.out.lt 6 rfl
  obtain ⟨c_p0, _⟩ := K12.out.get 6 rfl 0 rfl
  obtain ⟨c_p1, _⟩ := K12.out.get 6 rfl 1 rfl
  have l_ss := K12.out.lt 1 rfl
  obtain ⟨c_ss0, _⟩ := K12.out.get 1 rfl 0 rfl
  obtain ⟨c_ss1, _⟩ := K12.out.get 1 rfl 1 rfl
  have l_dd := K12.out.lt 0 rfl
  obtain ⟨c_dd0, _⟩ := K12.out.get 0 rfl 0 rfl
  obtain ⟨c_dd1, _⟩ := K12.out.get 0 rfl 1 rfl
  have l_q := K12.out.lt 5 rfl
  obtain ⟨c_q0, _⟩ := K12.out.get 5 rfl 0 rfl
  obtain ⟨c_q1, _⟩ := K12.out.get 5 rfl 1 rfl
  have l_none := K12.out.lt 4 rfl
  obtain ⟨c_none0, _⟩ := K12.out.get 4 rfl 0 rfl
  obtain ⟨c_none1, _⟩ := K12.out.get 4 rfl 1 rfl
  have l_b := K12.out.lt 9 rfl
  obtain ⟨c_b0, _⟩ := K12.out.get 9 rfl 0 rfl
  obtain ⟨c_b1, _⟩ := K12.out.get 9 rfl 1 rfl
  have l_x := K12.out.lt 3 rfl
  obtain ⟨c_x0, _⟩ := K12.out.get 3 rfl 0 rfl
  obtain ⟨c_x1, _⟩ := K12.out.get 3 rfl 1 rfl
  obtain ⟨c_x2, _⟩ := K12.out.get 3 rfl 2 rfl
  obtain ⟨c_x3, _⟩ := K12.out.get 3 rfl 3 rfl
  have l_y := K12.out.lt 2 rfl
  obtain ⟨c_y0, _⟩ := K12.out.get 2 rfl 0 rfl
  obtain ⟨c_y1, _⟩ := K12.out.get 2 rfl 1 rfl
  obtain ⟨c_y2, _⟩ := K12.out.get 2 rfl 2 rfl
  obtain ⟨c_y3, _⟩ := K12.out.get 2 rfl 3 rfl
  by_cases qnb : nb = 0
  · obtain ⟨e1, e2, e3⟩ := Hhz.out qnb
    subst qnb; subst e1; subst e2; subst e3
    go_wp2_with fail
    refine (awakeR_any _).mono ?_
    rintro r w' ⟨rfl, hb⟩
    have KX := Lib.hid ((K12.out.push [.int .i64 P1, .int .i64 P2] 42).keep hb)
    clear hb
    go_wp2
    go_ret
    exact ⟨rfl, KX.out.bel⟩
  · obtain ⟨X4, Y4, ht, hm4, hr4⟩ := Hhnz.out qnb
    have Hht := Lib.hid ht
    have Hhm4 := Lib.hid hm4
    have Hhr4 := Lib.hid hr4
    have qz : (nb == 0) = false := by simpa using qnb
    clear ht hm4 hr4 qnb
    go_upto_region 20 with fail
    have KAT := Lib.hid (K12.out.push [.int .i64 P1, .int .i64 P2] 42)
    have QXA := Lib.hid (QX3.out.keep (Below.alloc (Below.refl _ _) (Nat.le_refl _) (.cells #[.int .i64 P1, .int .i64 P2] 42)))
    have QYA := Lib.hid (QY3.out.keep (Below.alloc (Below.refl _ _) (Nat.le_refl _) (.cells #[.int .i64 P1, .int .i64 P2] 42)))
    clear QX3 QY3
    generalize w12.alloc (.cells #[.int .i64 P1, .int .i64 P2] 42) = WT at KAT QXA QYA ⊢
    clear l_s c_s0 c_s1 l_d c_d0 c_d1 l_p c_p0 c_p1 l_ss c_ss0 c_ss1 l_dd c_dd0 c_dd1 l_q c_q0 c_q1 l_none c_none0 c_none1 l_b c_b0 c_b1 l_x c_x0 c_x1 c_x2 c_x3 l_y c_y0 c_y1 c_y2 c_y3
    have l_x := KAT.out.lt 4 rfl
    obtain ⟨c_x0, _⟩ := KAT.out.get 4 rfl 0 rfl
    obtain ⟨c_x1, _⟩ := KAT.out.get 4 rfl 1 rfl
    obtain ⟨c_x2, _⟩ := KAT.out.get 4 rfl 2 rfl
    obtain ⟨c_x3, _⟩ := KAT.out.get 4 rfl 3 rfl
    have l_y := KAT.out.lt 3 rfl
    obtain ⟨c_y0, _⟩ := KAT.out.get 3 rfl 0 rfl
    obtain ⟨c_y1, _⟩ := KAT.out.get 3 rfl 1 rfl
    obtain ⟨c_y2, _⟩ := KAT.out.get 3 rfl 2 rfl
    obtain ⟨c_y3, _⟩ := KAT.out.get 3 rfl 3 rfl
    go_cut [23, 24] (fun t u wx => SumCut w wx [(w12.heap.size, [.int .i64 P1, .int .i64 P2]), (Qdd, [.int .i64 D1, .int .i64 D2]), (w10.heap.size, [.int .i64 S1, .int .i64 S2]), (w8.heap.size, [.bool tn, .slice bn jn en, .bool td, .slice bd jd ed]), (w7.heap.size, [.bool sn, .slice an kn cn, .bool sd, .slice ad kd cd]), (w6.heap.size, [.int .i64 0, .int .i64 0]), (w4.heap.size, [.int .i64 Q1, .int .i64 Q2]), (w3.heap.size, [.int .i64 P1, .int .i64 P2]), (w2.heap.size, [.int .i64 D1, .int .i64 D2]), (w1.heap.size, [.int .i64 S1, .int .i64 S2]), (w.heap.size + 1, [.int .i64 nb, .int .i64 db]), (w.heap.size, [.int .i64 na, .int .i64 da])] t u Q1 Q2 Qe (.agg #[.bool sn, .slice an kn cn, .bool sd, .slice ad kd cd]) (.agg #[.bool tn, .slice bn jn en, .bool td, .slice bd jd ed]) na da nb db)
    case first => as_aux_lemma =>
      have HN1 := Lib.hid (Hht.out _ WT.drew (QYA.out.keep (Below.drew (Below.refl _ _))))
      have HN2 := Lib.hid (fun o => Hht.out _ (WT.alloc o).drew (QYA.out.keep (Below.drew (Below.alloc (Below.refl _ _) (Nat.le_refl _) o))))
      have HAx := Lib.hid (fun (u : World) v (hb : Below WT.heap.size WT u) (hv : BigQ u v db nb) => Hhm4.out _ _ u (QXA.out.keep hb) hv)
      have HAy := Lib.hid (fun (u : World) v (o : Obj) (hb : Below WT.heap.size WT u) (hv : BigQ u v db nb) => Hhm4.out _ _ (u.alloc o) ((QXA.out.keep hb).keep (Below.alloc (Below.refl _ _) (Nat.le_refl _) o)) (hv.keep (Below.alloc (Below.refl _ _) (Nat.le_refl _) o)))
      have HN3 := Lib.hid (fun o => Hht.out _ (WT.drew.alloc o) (QYA.out.keep (Below.alloc (Below.drew (Below.refl _ _)) (Nat.le_refl _) o)))
      go_region_held3 (fun w' => w'.cell? ⟨w7.heap.size, 0, none⟩ = some (.bool sn) ∧ w'.cell? ⟨w7.heap.size, 1, none⟩ = some (.slice an kn cn) ∧ w'.cell? ⟨w7.heap.size, 2, none⟩ = some (.bool sd) ∧ w'.cell? ⟨w7.heap.size, 3, none⟩ = some (.slice ad kd cd) ∧ w'.cell? ⟨w8.heap.size, 0, none⟩ = some (.bool tn) ∧ w'.cell? ⟨w8.heap.size, 1, none⟩ = some (.slice bn jn en) ∧ w'.cell? ⟨w8.heap.size, 2, none⟩ = some (.bool td) ∧ w'.cell? ⟨w8.heap.size, 3, none⟩ = some (.slice bd jd ed))
        (first | (with_reducible exact ⟨c_x0', c_x1', c_x2', c_x3', c_y0', c_y1', c_y2', c_y3'⟩) | (with_reducible exact ⟨(acd (by omega)).trans c_x0, (acd (by omega)).trans c_x1, (acd (by omega)).trans c_x2, (acd (by omega)).trans c_x3, (acd (by omega)).trans c_y0, (acd (by omega)).trans c_y1, (acd (by omega)).trans c_y2, (acd (by omega)).trans c_y3⟩) | (with_reducible exact ⟨(ac (by omega)).trans c_x0', (ac (by omega)).trans c_x1', (ac (by omega)).trans c_x2', (ac (by omega)).trans c_x3', (ac (by omega)).trans c_y0', (ac (by omega)).trans c_y1', (ac (by omega)).trans c_y2', (ac (by omega)).trans c_y3'⟩) | (with_reducible exact ⟨(two_other (by omega)).trans c_x0', (two_other (by omega)).trans c_x1', (two_other (by omega)).trans c_x2', (two_other (by omega)).trans c_x3', (two_other (by omega)).trans c_y0', (two_other (by omega)).trans c_y1', (two_other (by omega)).trans c_y2', (two_other (by omega)).trans c_y3'⟩) | go_keep)
        (first | (go_at_call 34; (first | (with_reducible refine HN1.out.mono ?_) | (with_reducible refine (HN2.out _).mono ?_) | (with_reducible refine (HN3.out _).mono ?_)); rintro r u1 ⟨⟨v1, rfl, hv1⟩, hb1⟩; (first | (have B1 : Hid (Below WT.heap.size WT u1) := Lib.hid (undrewB hb1)) | (have B1 : Hid (Below WT.heap.size WT u1) := Lib.hid (allocdS hb1); have HQ1 := Lib.hid (QI.of_drew hb1)) | (have B1 : Hid (Below WT.heap.size WT u1) := Lib.hid (undrewB (allocS hb1)); have HQ1 := Lib.hid (QI.of_drewA hb1))); have J1 := Lib.hid (KAT.out.keep B1.out); obtain ⟨c_x0', _⟩ := J1.out.get 4 rfl 0 rfl; obtain ⟨c_x1', _⟩ := J1.out.get 4 rfl 1 rfl; obtain ⟨c_x2', _⟩ := J1.out.get 4 rfl 2 rfl; obtain ⟨c_x3', _⟩ := J1.out.get 4 rfl 3 rfl; obtain ⟨c_y0', _⟩ := J1.out.get 3 rfl 0 rfl; obtain ⟨c_y1', _⟩ := J1.out.get 3 rfl 1 rfl; obtain ⟨c_y2', _⟩ := J1.out.get 3 rfl 2 rfl; obtain ⟨c_y3', _⟩ := J1.out.get 3 rfl 3 rfl; have l_xJ1 := J1.out.lt 4 rfl; have l_yJ1 := J1.out.lt 3 rfl; have V1 := Lib.hid hv1; clear hv1 hb1) | (go_at_call 33; (first | (with_reducible refine (HAx.out _ _ B1.out V1.out).mono ?_) | (with_reducible refine (HAy.out _ _ _ B1.out V1.out).mono ?_)); rintro r u2 ⟨⟨v2, rfl, hv2⟩, hb2⟩; (first | (have HQ2 := Lib.hid (HQ1.out.keep hb2); have B2 := Lib.hid (B1.out.trans (hb2.mono B1.out.size))) | (have B2 := Lib.hid (B1.out.trans (hb2.mono B1.out.size))) | (have HQ2 := Lib.hid (QI.of_alloc hb2); have B2 := Lib.hid (B1.out.trans ((allocS hb2).mono B1.out.size)))); have J2 := Lib.hid (KAT.out.keep B2.out); clear c_x0' c_x1' c_x2' c_x3' c_y0' c_y1' c_y2' c_y3'; obtain ⟨c_x0', _⟩ := J2.out.get 4 rfl 0 rfl; obtain ⟨c_x1', _⟩ := J2.out.get 4 rfl 1 rfl; obtain ⟨c_x2', _⟩ := J2.out.get 4 rfl 2 rfl; obtain ⟨c_x3', _⟩ := J2.out.get 4 rfl 3 rfl; obtain ⟨c_y0', _⟩ := J2.out.get 3 rfl 0 rfl; obtain ⟨c_y1', _⟩ := J2.out.get 3 rfl 1 rfl; obtain ⟨c_y2', _⟩ := J2.out.get 3 rfl 2 rfl; obtain ⟨c_y3', _⟩ := J2.out.get 3 rfl 3 rfl; have l_xJ2 := J2.out.lt 4 rfl; have l_yJ2 := J2.out.lt 3 rfl; have HR1 := Lib.hid (Hhr4.out _ u2 hv2); have HR2 := Lib.hid (fun o => Hhr4.out _ (u2.alloc o) (hv2.keep (Below.alloc (Below.refl _ _) (Nat.le_refl _) o))); clear hv2 hb2) | (go_at_call 25; (first | (with_reducible refine HR1.out.mono ?_) | (with_reducible refine (HR2.out _).mono ?_)); rintro r u3 ⟨rfl, hb3⟩; (first | (have HQ3 := Lib.hid (HQ2.out.keep hb3); have B3 := Lib.hid (B2.out.trans (hb3.mono B2.out.size)); obtain ⟨q0, q1, g0, g1, _⟩ := id HQ3.out) | (have B3 := Lib.hid (B2.out.trans (hb3.mono B2.out.size))) | (have HQ3 := Lib.hid (QI.of_alloc hb3); have B3 := Lib.hid (B2.out.trans ((allocS hb3).mono B2.out.size)); obtain ⟨q0, q1, g0, g1, _⟩ := id HQ3.out)); have J3 := Lib.hid (KAT.out.keep B3.out); clear c_x0' c_x1' c_x2' c_x3' c_y0' c_y1' c_y2' c_y3'; obtain ⟨c_x0', _⟩ := J3.out.get 4 rfl 0 rfl; obtain ⟨c_x1', _⟩ := J3.out.get 4 rfl 1 rfl; obtain ⟨c_x2', _⟩ := J3.out.get 4 rfl 2 rfl; obtain ⟨c_x3', _⟩ := J3.out.get 4 rfl 3 rfl; obtain ⟨c_y0', _⟩ := J3.out.get 3 rfl 0 rfl; obtain ⟨c_y1', _⟩ := J3.out.get 3 rfl 1 rfl; obtain ⟨c_y2', _⟩ := J3.out.get 3 rfl 2 rfl; obtain ⟨c_y3', _⟩ := J3.out.get 3 rfl 3 rfl; have l_xJ3 := J3.out.lt 4 rfl; have l_yJ3 := J3.out.lt 3 rfl; clear hb3))
      all_goals go_wp2
      all_goals go_meet
      all_goals (first | exact SumCut.of_new KAT.out B3.out QXA.out QYA.out | exact SumCut.of_set KAT.out B3.out HQ3.out (Nat.le_refl _) QXA.out QYA.out | exact SumCut.of_set KAT.out B3.out HQ3.out B1.out.size QXA.out QYA.out | exact SumCut.of_set KAT.out B3.out HQ3.out B2.out.size QXA.out QYA.out)
    case rest => as_aux_lemma =>
    obtain ⟨Qqq, rfl, rfl, hK, hqx, hqy⟩ := hcut
    have KCT := Lib.hid hK
    have QX3 := Lib.hid hqx
    have QY3 := Lib.hid hqy
    clear hK hqx hqy QXA QYA
    clear l_x c_x0 c_x1 c_x2 c_x3 l_y c_y0 c_y1 c_y2 c_y3
    have l_q := KCT.out.lt 7 rfl
    obtain ⟨c_q0, _⟩ := KCT.out.get 7 rfl 0 rfl
    obtain ⟨c_q1, _⟩ := KCT.out.get 7 rfl 1 rfl
    have l_qq := KCT.out.lt 0 rfl
    obtain ⟨c_qq0, _⟩ := KCT.out.get 0 rfl 0 rfl
    obtain ⟨c_qq1, _⟩ := KCT.out.get 0 rfl 1 rfl
    go_wp2_with fail
    refine (awakeR_any _).mono ?_
    rintro r w' ⟨rfl, hb⟩
    have KX := Lib.hid (KCT.out.keep hb)
    clear hb
    go_wp2
    go_ret
    exact ⟨rfl, KX.out.bel⟩

end Go.Proofs.Ytljhjjkbpckkjaa

/-
  chattelref02: Mul, Add, Neg, Turn.
-/
import Derived.Test.YtfkaliammmpcfaaGreatDoorRefOR
import Derived.Test.YtfkaliammmpcfaaGreatDoorHeldV
import Derived.Test.YtfkaliammmpcfaaGreatDoorRf
import Derived.Deep.RegionWith
import Derived.Deep.DeepCutAuto
namespace Go.Proofs.YtfkaliammmpcfaaGreatDoor
open Go.RowKit
set_option linter.unusedVariables false

theorem add_bits {a b : Int} {k : Nat} (ha : a.natAbs < 2 ^ k) (hb : b.natAbs < 2 ^ k) : (a + b).natAbs < 2 ^ (k + 1) := by
  rw [Nat.pow_succ]; omega
theorem four_other {w : World} {Q b i : Nat} {x0 x1 x2 x3 : Value} (h : Q ≠ b) : ((((w.setCell ⟨Q, 0, none⟩ x0).setCell ⟨Q, 1, none⟩ x1).setCell ⟨Q, 2, none⟩ x2).setCell ⟨Q, 3, none⟩ x3).cell? ⟨b, i, none⟩ = w.cell? ⟨b, i, none⟩ := by
  have co : ∀ {w : World} {o : Nat} {v : Value}, (w.setCell ⟨Q, o, none⟩ v).cell? ⟨b, i, none⟩ = w.cell? ⟨b, i, none⟩ := fun {w o v} => cell_other (by intro e; injection e with e1 e2; exact h e1)
  rw [co, co, co, co]

set_option maxHeartbeats 8000000 in
set_option maxRecDepth 100000 in
theorem rmulq_any (n1 d1 n2 d2 : Int) (v v' : Value) (w : World) (h : BigQ w v n1 d1) (h' : BigQ w v' n2 d2) (l1 : n1.natAbs < 2 ^ 400) (l2 : d1.natAbs < 2 ^ 400) (l3 : n2.natAbs < 2 ^ 400) (l4 : d2.natAbs < 2 ^ 400) :
    Calls Tryz.prog 25 #[v, v'] w fun e w' => (∃ v, e = .returned v ∧ BigQ w' v (n1 * n2) (d1 * d2)) ∧ Below w.heap.size w w' := by
  obtain ⟨sn, an, kn, cn, sd, ad, kd, cd, rfl, hn1, hd1, e1, e2⟩ := h.parts
  clear e1 e2
  obtain ⟨tn, bn, jn, en, td, bd, jd, ed, rfl, hn2, hd2, e1, e2⟩ := h'.parts
  clear e1 e2
  have N1 := Lib.hid hn1
  have D1 := Lib.hid hd1
  have N2 := Lib.hid hn2
  have D2 := Lib.hid hd2
  have HMa := Lib.hid (fun v v' w (h : BigV w v n1) (h' : BigV w v' n2) => rmul_any n1 n2 v v' w h h' (lim_up (k := 400) (m := 1000) (by decide) l1) (lim_up (k := 400) (m := 1000) (by decide) l3))
  have HMb := Lib.hid (fun v v' w (h : BigV w v d1) (h' : BigV w v' d2) => rmul_any d1 d2 v v' w h h' (lim_up (k := 400) (m := 1000) (by decide) l2) (lim_up (k := 400) (m := 1000) (by decide) l4))
  clear l1 l2 l3 l4
  clear h h' hn1 hd1 hn2 hd2
  go_enter Tryz.func25, Tryz.ntmps25
  go_wp2_with fail
  have HK := Lib.hid (HeldV.three w [.bool sn, .slice an kn cn, .bool sd, .slice ad kd cd] [.bool tn, .slice bn jn en, .bool td, .slice bd jd ed] [.bool false, .slice none 0 0, .bool false, .slice none 0 0] 68 68 68)
  generalize (((w.alloc (.cells #[.bool sn, .slice an kn cn, .bool sd, .slice ad kd cd] 68)).alloc (.cells #[.bool tn, .slice bn jn en, .bool td, .slice bd jd ed] 68)).alloc (.cells #[.bool false, .slice none 0 0, .bool false, .slice none 0 0] 68)) = W at HK ⊢
  obtain ⟨x0, _⟩ := HK.out.get 2 rfl 0 rfl
  obtain ⟨x1, _⟩ := HK.out.get 2 rfl 1 rfl
  obtain ⟨x2, _⟩ := HK.out.get 2 rfl 2 rfl
  obtain ⟨x3, _⟩ := HK.out.get 2 rfl 3 rfl
  obtain ⟨y0, _⟩ := HK.out.get 1 rfl 0 rfl
  obtain ⟨y1, _⟩ := HK.out.get 1 rfl 1 rfl
  obtain ⟨y2, _⟩ := HK.out.get 1 rfl 2 rfl
  obtain ⟨y3, _⟩ := HK.out.get 1 rfl 3 rfl
  have HW1 := Lib.hid (HMa.out _ _ W.drew (N1.out.keep HK.out.bel.drew) (N2.out.keep HK.out.bel.drew))
  go_region_held3 (fun w' => w'.cell? ⟨w.heap.size, 0, none⟩ = some (.bool sn) ∧ w'.cell? ⟨w.heap.size, 1, none⟩ = some (.slice an kn cn) ∧ w'.cell? ⟨w.heap.size, 2, none⟩ = some (.bool sd) ∧ w'.cell? ⟨w.heap.size, 3, none⟩ = some (.slice ad kd cd) ∧ w'.cell? ⟨w.heap.size + 1, 0, none⟩ = some (.bool tn) ∧ w'.cell? ⟨w.heap.size + 1, 1, none⟩ = some (.slice bn jn en) ∧ w'.cell? ⟨w.heap.size + 1, 2, none⟩ = some (.bool td) ∧ w'.cell? ⟨w.heap.size + 1, 3, none⟩ = some (.slice bd jd ed))
    (first | (with_reducible exact ⟨(four_other (by omega)).trans x0', (four_other (by omega)).trans x1', (four_other (by omega)).trans x2', (four_other (by omega)).trans x3', (four_other (by omega)).trans y0', (four_other (by omega)).trans y1', (four_other (by omega)).trans y2', (four_other (by omega)).trans y3'⟩) | go_keep)
    (first | (go_at_call 43; (with_reducible refine HW1.out.mono ?_); rintro e w1 ⟨⟨v1, rfl, hv1⟩, hb1⟩; obtain ⟨s1, a1, k1, c1, hve1, hv1'⟩ := hv1.shape; have V1 := Lib.hid hv1'; have HK1 := Lib.hid (HK.out.keep (undrewB hb1)); obtain ⟨x0', _⟩ := HK1.out.get 2 rfl 0 rfl; obtain ⟨x1', _⟩ := HK1.out.get 2 rfl 1 rfl; obtain ⟨x2', _⟩ := HK1.out.get 2 rfl 2 rfl; obtain ⟨x3', _⟩ := HK1.out.get 2 rfl 3 rfl; obtain ⟨y0', _⟩ := HK1.out.get 1 rfl 0 rfl; obtain ⟨y1', _⟩ := HK1.out.get 1 rfl 1 rfl; obtain ⟨y2', _⟩ := HK1.out.get 1 rfl 2 rfl; obtain ⟨y3', _⟩ := HK1.out.get 1 rfl 3 rfl; have HW2 := Lib.hid (HMb.out _ _ w1 (D1.out.keep HK1.out.bel) (D2.out.keep HK1.out.bel)); subst hve1; clear hv1 hv1' hb1) | (go_at_call 43; (with_reducible refine HW2.out.mono ?_); rintro e w2 ⟨⟨v2, rfl, hv2⟩, hb2⟩; obtain ⟨s2, a2, k2, c2, hve2, hv2'⟩ := hv2.shape; have V2 := Lib.hid hv2'; have HK2 := Lib.hid (HK1.out.keep hb2); have V1_2 := Lib.hid (V1.out.keep hb2); clear x0' x1' x2' x3' y0' y1' y2' y3'; obtain ⟨x0', _⟩ := HK2.out.get 2 rfl 0 rfl; obtain ⟨x1', _⟩ := HK2.out.get 2 rfl 1 rfl; obtain ⟨x2', _⟩ := HK2.out.get 2 rfl 2 rfl; obtain ⟨x3', _⟩ := HK2.out.get 2 rfl 3 rfl; obtain ⟨y0', _⟩ := HK2.out.get 1 rfl 0 rfl; obtain ⟨y1', _⟩ := HK2.out.get 1 rfl 1 rfl; obtain ⟨y2', _⟩ := HK2.out.get 1 rfl 2 rfl; obtain ⟨y3', _⟩ := HK2.out.get 1 rfl 3 rfl; obtain ⟨r0, g0⟩ := HK2.out.get 0 rfl 0 rfl; obtain ⟨r1, g1⟩ := HK2.out.get 0 rfl 1 rfl; obtain ⟨r2, g2⟩ := HK2.out.get 0 rfl 2 rfl; obtain ⟨r3, g3⟩ := HK2.out.get 0 rfl 3 rfl; subst hve2; clear hv2 hv2' hb2))
  go_wp2
  exact bodyPost_ret (v := .agg #[.bool s1, .slice a1 k1 c1, .bool s2, .slice a2 k2 c2]) (by simp [results, Tryz.results25, go_sem, r0, r1, r2, r3]) rfl ⟨⟨_, rfl, BigQ.of (four_stored V1_2.out r0 r1 r2 r3 _ _ _ _) (four_stored V2.out r0 r1 r2 r3 _ _ _ _)⟩, four_below HK2.out.bel (by omega) _ _ _ _⟩

set_option maxHeartbeats 8000000 in
set_option maxRecDepth 100000 in
theorem raddq_any (n1 d1 n2 d2 : Int) (v v' : Value) (w : World) (h : BigQ w v n1 d1) (h' : BigQ w v' n2 d2) (l1 : n1.natAbs < 2 ^ 400) (l2 : d1.natAbs < 2 ^ 400) (l3 : n2.natAbs < 2 ^ 400) (l4 : d2.natAbs < 2 ^ 400) :
    Calls Tryz.prog 23 #[v, v'] w fun e w' => (∃ v, e = .returned v ∧ BigQ w' v (n1 * d2 + n2 * d1) (d1 * d2)) ∧ Below w.heap.size w w' := by
  obtain ⟨sn, an, kn, cn, sd, ad, kd, cd, rfl, hn1, hd1, e1, e2⟩ := h.parts
  clear e1 e2
  obtain ⟨tn, bn, jn, en, td, bd, jd, ed, rfl, hn2, hd2, e1, e2⟩ := h'.parts
  clear e1 e2
  have N1 := Lib.hid hn1
  have D1 := Lib.hid hd1
  have N2 := Lib.hid hn2
  have D2 := Lib.hid hd2
  have HMa := Lib.hid (fun v v' w (h : BigV w v (n1)) (h' : BigV w v' (d2)) => rmul_any (n1) (d2) v v' w h h' (lim_up (k := 400) (m := 1000) (by decide) l1) (lim_up (k := 400) (m := 1000) (by decide) l4))
  have HMb := Lib.hid (fun v v' w (h : BigV w v (n2)) (h' : BigV w v' (d1)) => rmul_any (n2) (d1) v v' w h h' (lim_up (k := 400) (m := 1000) (by decide) l3) (lim_up (k := 400) (m := 1000) (by decide) l2))
  have HMc := Lib.hid (fun v v' w (h : BigV w v (d1)) (h' : BigV w v' (d2)) => rmul_any (d1) (d2) v v' w h h' (lim_up (k := 400) (m := 1000) (by decide) l2) (lim_up (k := 400) (m := 1000) (by decide) l4))
  have HAd := Lib.hid (fun v v' w (h : BigV w v (n1 * d2)) (h' : BigV w v' (n2 * d1)) => radd_any (n1 * d2) (n2 * d1) v v' w h h' (lim_up (k := 400 + 400) (m := 1000) (by decide) (mul_bits l1 l4)) (lim_up (k := 400 + 400) (m := 1000) (by decide) (mul_bits l3 l2)))
  clear l1 l2 l3 l4
  clear h h' hn1 hd1 hn2 hd2
  go_enter Tryz.func23, Tryz.ntmps23
  go_wp2_with fail
  have HK := Lib.hid (HeldV.three w [.bool sn, .slice an kn cn, .bool sd, .slice ad kd cd] [.bool tn, .slice bn jn en, .bool td, .slice bd jd ed] [.bool false, .slice none 0 0, .bool false, .slice none 0 0] 68 68 68)
  generalize (((w.alloc (.cells #[.bool sn, .slice an kn cn, .bool sd, .slice ad kd cd] 68)).alloc (.cells #[.bool tn, .slice bn jn en, .bool td, .slice bd jd ed] 68)).alloc (.cells #[.bool false, .slice none 0 0, .bool false, .slice none 0 0] 68)) = W at HK ⊢
  obtain ⟨x0, _⟩ := HK.out.get 2 rfl 0 rfl
  obtain ⟨x1, _⟩ := HK.out.get 2 rfl 1 rfl
  obtain ⟨x2, _⟩ := HK.out.get 2 rfl 2 rfl
  obtain ⟨x3, _⟩ := HK.out.get 2 rfl 3 rfl
  obtain ⟨y0, _⟩ := HK.out.get 1 rfl 0 rfl
  obtain ⟨y1, _⟩ := HK.out.get 1 rfl 1 rfl
  obtain ⟨y2, _⟩ := HK.out.get 1 rfl 2 rfl
  obtain ⟨y3, _⟩ := HK.out.get 1 rfl 3 rfl
  have HW1 := Lib.hid (HMa.out _ _ W.drew (N1.out.keep HK.out.bel.drew) (D2.out.keep HK.out.bel.drew))
  go_region_held3 (fun w' => w'.cell? ⟨w.heap.size, 0, none⟩ = some (.bool sn) ∧ w'.cell? ⟨w.heap.size, 1, none⟩ = some (.slice an kn cn) ∧ w'.cell? ⟨w.heap.size, 2, none⟩ = some (.bool sd) ∧ w'.cell? ⟨w.heap.size, 3, none⟩ = some (.slice ad kd cd) ∧ w'.cell? ⟨w.heap.size + 1, 0, none⟩ = some (.bool tn) ∧ w'.cell? ⟨w.heap.size + 1, 1, none⟩ = some (.slice bn jn en) ∧ w'.cell? ⟨w.heap.size + 1, 2, none⟩ = some (.bool td) ∧ w'.cell? ⟨w.heap.size + 1, 3, none⟩ = some (.slice bd jd ed))
    (first | (with_reducible exact ⟨(four_other (by omega)).trans x0', (four_other (by omega)).trans x1', (four_other (by omega)).trans x2', (four_other (by omega)).trans x3', (four_other (by omega)).trans y0', (four_other (by omega)).trans y1', (four_other (by omega)).trans y2', (four_other (by omega)).trans y3'⟩) | go_keep)
    (first | (go_at_call 43; (with_reducible refine HW1.out.mono ?_); rintro e w1 ⟨⟨v1, rfl, hv1⟩, hb1⟩; obtain ⟨s1, a1, k1, c1, hve1, hv1'⟩ := hv1.shape; have V1 := Lib.hid hv1'; have HK1 := Lib.hid (HK.out.keep (undrewB hb1)); obtain ⟨x0', _⟩ := HK1.out.get 2 rfl 0 rfl; obtain ⟨x1', _⟩ := HK1.out.get 2 rfl 1 rfl; obtain ⟨x2', _⟩ := HK1.out.get 2 rfl 2 rfl; obtain ⟨x3', _⟩ := HK1.out.get 2 rfl 3 rfl; obtain ⟨y0', _⟩ := HK1.out.get 1 rfl 0 rfl; obtain ⟨y1', _⟩ := HK1.out.get 1 rfl 1 rfl; obtain ⟨y2', _⟩ := HK1.out.get 1 rfl 2 rfl; obtain ⟨y3', _⟩ := HK1.out.get 1 rfl 3 rfl; have HW2 := Lib.hid (HMb.out _ _ w1 (N2.out.keep HK1.out.bel) (D1.out.keep HK1.out.bel)); subst hve1; clear hv1 hv1' hb1) | (go_at_call 43; (with_reducible refine HW2.out.mono ?_); rintro e w2 ⟨⟨v2, rfl, hv2⟩, hb2⟩; obtain ⟨s2, a2, k2, c2, hve2, hv2'⟩ := hv2.shape; have V2 := Lib.hid hv2'; have HK2 := Lib.hid (HK1.out.keep hb2); have V1_2 := Lib.hid (V1.out.keep hb2); clear x0' x1' x2' x3' y0' y1' y2' y3'; obtain ⟨x0', _⟩ := HK2.out.get 2 rfl 0 rfl; obtain ⟨x1', _⟩ := HK2.out.get 2 rfl 1 rfl; obtain ⟨x2', _⟩ := HK2.out.get 2 rfl 2 rfl; obtain ⟨x3', _⟩ := HK2.out.get 2 rfl 3 rfl; obtain ⟨y0', _⟩ := HK2.out.get 1 rfl 0 rfl; obtain ⟨y1', _⟩ := HK2.out.get 1 rfl 1 rfl; obtain ⟨y2', _⟩ := HK2.out.get 1 rfl 2 rfl; obtain ⟨y3', _⟩ := HK2.out.get 1 rfl 3 rfl; have HW3 := Lib.hid (HAd.out _ _ w2 V1_2.out V2.out); subst hve2; clear hv2 hv2' hb2) | (go_at_call 44; (with_reducible refine HW3.out.mono ?_); rintro e w3 ⟨⟨v3, rfl, hv3⟩, hb3⟩; obtain ⟨s3, a3, k3, c3, hve3, hv3'⟩ := hv3.shape; have V3 := Lib.hid hv3'; have HK3 := Lib.hid (HK2.out.keep hb3); have V1_3 := Lib.hid (V1_2.out.keep hb3); have V2_3 := Lib.hid (V2.out.keep hb3); clear x0' x1' x2' x3' y0' y1' y2' y3'; obtain ⟨x0', _⟩ := HK3.out.get 2 rfl 0 rfl; obtain ⟨x1', _⟩ := HK3.out.get 2 rfl 1 rfl; obtain ⟨x2', _⟩ := HK3.out.get 2 rfl 2 rfl; obtain ⟨x3', _⟩ := HK3.out.get 2 rfl 3 rfl; obtain ⟨y0', _⟩ := HK3.out.get 1 rfl 0 rfl; obtain ⟨y1', _⟩ := HK3.out.get 1 rfl 1 rfl; obtain ⟨y2', _⟩ := HK3.out.get 1 rfl 2 rfl; obtain ⟨y3', _⟩ := HK3.out.get 1 rfl 3 rfl; have HW4 := Lib.hid (HMc.out _ _ w3 (D1.out.keep HK3.out.bel) (D2.out.keep HK3.out.bel)); subst hve3; clear hv3 hv3' hb3) | (go_at_call 43; (with_reducible refine HW4.out.mono ?_); rintro e w4 ⟨⟨v4, rfl, hv4⟩, hb4⟩; obtain ⟨s4, a4, k4, c4, hve4, hv4'⟩ := hv4.shape; have V4 := Lib.hid hv4'; have HK4 := Lib.hid (HK3.out.keep hb4); have V1_4 := Lib.hid (V1_3.out.keep hb4); have V2_4 := Lib.hid (V2_3.out.keep hb4); have V3_4 := Lib.hid (V3.out.keep hb4); clear x0' x1' x2' x3' y0' y1' y2' y3'; obtain ⟨x0', _⟩ := HK4.out.get 2 rfl 0 rfl; obtain ⟨x1', _⟩ := HK4.out.get 2 rfl 1 rfl; obtain ⟨x2', _⟩ := HK4.out.get 2 rfl 2 rfl; obtain ⟨x3', _⟩ := HK4.out.get 2 rfl 3 rfl; obtain ⟨y0', _⟩ := HK4.out.get 1 rfl 0 rfl; obtain ⟨y1', _⟩ := HK4.out.get 1 rfl 1 rfl; obtain ⟨y2', _⟩ := HK4.out.get 1 rfl 2 rfl; obtain ⟨y3', _⟩ := HK4.out.get 1 rfl 3 rfl; obtain ⟨r0, g0⟩ := HK4.out.get 0 rfl 0 rfl; obtain ⟨r1, g1⟩ := HK4.out.get 0 rfl 1 rfl; obtain ⟨r2, g2⟩ := HK4.out.get 0 rfl 2 rfl; obtain ⟨r3, g3⟩ := HK4.out.get 0 rfl 3 rfl; subst hve4; clear hv4 hv4' hb4))
  go_wp2
  exact bodyPost_ret (v := .agg #[.bool s3, .slice a3 k3 c3, .bool s4, .slice a4 k4 c4]) (by simp [results, Tryz.results23, go_sem, r0, r1, r2, r3]) rfl ⟨⟨_, rfl, BigQ.of (four_stored V3_4.out r0 r1 r2 r3 _ _ _ _) (four_stored V4.out r0 r1 r2 r3 _ _ _ _)⟩, four_below HK4.out.bel (by omega) _ _ _ _⟩

set_option maxHeartbeats 8000000 in
set_option maxRecDepth 100000 in
theorem rnegq_any (n1 d1 : Int) (v : Value) (w : World) (h : BigQ w v n1 d1) :
    Calls Tryz.prog 24 #[v] w fun e w' => (∃ v, e = .returned v ∧ BigQ w' v (-n1) (d1)) ∧ Below w.heap.size w w' := by
  obtain ⟨sn, an, kn, cn, sd, ad, kd, cd, rfl, hn1, hd1, e1, e2⟩ := h.parts
  clear e1 e2
  have N1 := Lib.hid hn1
  have D1 := Lib.hid hd1
  clear h hn1 hd1
  go_enter Tryz.func24, Tryz.ntmps24
  go_wp2_with fail
  have HK := Lib.hid (HeldV.two w [.bool sn, .slice an kn cn, .bool sd, .slice ad kd cd] [.bool false, .slice none 0 0, .bool false, .slice none 0 0] 68 68)
  generalize ((w.alloc (.cells #[.bool sn, .slice an kn cn, .bool sd, .slice ad kd cd] 68)).alloc (.cells #[.bool false, .slice none 0 0, .bool false, .slice none 0 0] 68)) = W at HK ⊢
  obtain ⟨x0, _⟩ := HK.out.get 1 rfl 0 rfl
  obtain ⟨x1, _⟩ := HK.out.get 1 rfl 1 rfl
  obtain ⟨x2, _⟩ := HK.out.get 1 rfl 2 rfl
  obtain ⟨x3, _⟩ := HK.out.get 1 rfl 3 rfl
  have HW1 := Lib.hid (rnegv n1 _ W.drew (N1.out.keep HK.out.bel.drew))
  go_region_held3 (fun w' => w'.cell? ⟨w.heap.size, 0, none⟩ = some (.bool sn) ∧ w'.cell? ⟨w.heap.size, 1, none⟩ = some (.slice an kn cn) ∧ w'.cell? ⟨w.heap.size, 2, none⟩ = some (.bool sd) ∧ w'.cell? ⟨w.heap.size, 3, none⟩ = some (.slice ad kd cd))
    (first | (with_reducible exact ⟨(four_other (by omega)).trans x0', (four_other (by omega)).trans x1', (four_other (by omega)).trans x2', (four_other (by omega)).trans x3'⟩) | go_keep)
    (first | (go_at_call 45; (with_reducible refine HW1.out.mono ?_); rintro e w1 ⟨⟨v1, rfl, hv1⟩, hb1⟩; obtain ⟨s1, a1, k1, c1, hve1, hv1'⟩ := hv1.shape; have V1 := Lib.hid hv1'; have HK1 := Lib.hid (HK.out.keep (undrewB hb1)); obtain ⟨x0', _⟩ := HK1.out.get 1 rfl 0 rfl; obtain ⟨x1', _⟩ := HK1.out.get 1 rfl 1 rfl; obtain ⟨x2', _⟩ := HK1.out.get 1 rfl 2 rfl; obtain ⟨x3', _⟩ := HK1.out.get 1 rfl 3 rfl; obtain ⟨r0, g0⟩ := HK1.out.get 0 rfl 0 rfl; obtain ⟨r1, g1⟩ := HK1.out.get 0 rfl 1 rfl; obtain ⟨r2, g2⟩ := HK1.out.get 0 rfl 2 rfl; obtain ⟨r3, g3⟩ := HK1.out.get 0 rfl 3 rfl; subst hve1; clear hv1 hv1' hb1))
  have D1' := Lib.hid (D1.out.keep HK1.out.bel)
  go_wp2
  exact bodyPost_ret (v := .agg #[.bool s1, .slice a1 k1 c1, .bool sd, .slice ad kd cd]) (by simp [results, Tryz.results24, go_sem, r0, r1, r2, r3]) rfl ⟨⟨_, rfl, BigQ.of (four_stored V1.out r0 r1 r2 r3 _ _ _ _) (four_stored D1'.out r0 r1 r2 r3 _ _ _ _)⟩, four_below HK1.out.bel (by omega) _ _ _ _⟩

end Go.Proofs.YtfkaliammmpcfaaGreatDoor

namespace Go.Proofs.YtfkaliammmpcfaaGreatDoor
open Go.RowKit
set_option linter.unusedVariables false

theorem allocB {w w1 : World} {o : Obj} (h : Below (w.alloc o).heap.size (w.alloc o) w1) : Below w.heap.size w w1 := (Below.alloc (Below.refl _ _) (Nat.le_refl _) _).trans (h.mono (by simp))
theorem allocdB {w w1 : World} {o : Obj} (h : Below (w.alloc o).drew.heap.size (w.alloc o).drew w1) : Below w.heap.size w w1 := allocB (undrewB h)

/-- A block of two cells that hold no number yet. -/
structure QB (wx : World) (Q : Nat) : Prop where
  c0 : wx.cell? ⟨Q, 0, none⟩ = some (.bool false)
  c1 : wx.cell? ⟨Q, 1, none⟩ = some (.slice none 0 0)
  f0 : wx.frozen? ⟨Q, 0, none⟩ = false
  f1 : wx.frozen? ⟨Q, 1, none⟩ = false
  lt : Q < wx.heap.size
theorem QB.keep {wx w1 : World} {Q : Nat} (h : QB wx Q) (hb : Below wx.heap.size wx w1) : QB w1 Q := by
  have hc : ∀ i, w1.cell? ⟨Q, i, none⟩ = wx.cell? ⟨Q, i, none⟩ := fun i => hb.cell (p := ⟨Q, i, none⟩) h.lt
  have hf : ∀ i, w1.frozen? ⟨Q, i, none⟩ = wx.frozen? ⟨Q, i, none⟩ := fun i => hb.frozen (p := ⟨Q, i, none⟩) h.lt
  exact ⟨(hc _).trans h.c0, (hc _).trans h.c1, (hf _).trans h.f0, (hf _).trans h.f1, Nat.lt_of_lt_of_le h.lt hb.size⟩
theorem QB.new (w : World) (e : TypeId) : QB (w.alloc (.cells #[.bool false, .slice none 0 0] e)) w.heap.size :=
  ⟨new_at rfl, new_at rfl, World.frozen?_alloc_at _ _ _ _ rfl, World.frozen?_alloc_at _ _ _ _ rfl, by simp⟩
theorem QB.of_drew {w w1 : World} {e : TypeId} (h : Below (w.alloc (.cells #[.bool false, .slice none 0 0] e)).drew.heap.size (w.alloc (.cells #[.bool false, .slice none 0 0] e)).drew w1) : QB w1 w.heap.size := (QB.new w e).keep (undrewB h)
theorem QB.of_alloc {w w1 : World} {e : TypeId} (h : Below (w.alloc (.cells #[.bool false, .slice none 0 0] e)).heap.size (w.alloc (.cells #[.bool false, .slice none 0 0] e)) w1) : QB w1 w.heap.size := (QB.new w e).keep h

/-- The difference, in a block of its own. -/
def OrdCut (w wx : World) (t : Value) (z : Int) : Prop := ∃ (Q : Nat) (s : Bool) (a : Option Addr) (n c : Nat), t = .pointer (some ⟨Q, 0, none⟩) ∧ wx.cell? ⟨Q, 0, none⟩ = some (.bool s) ∧ wx.cell? ⟨Q, 1, none⟩ = some (.slice a n c) ∧ BigV wx (.agg #[.bool s, .slice a n c]) z ∧ Below w.heap.size w wx
theorem OrdCut.of_new {w w2 : World} {s : Bool} {a : Option Addr} {n c : Nat} {z : Int} {e : TypeId} (hb : Below w.heap.size w w2) (h : BigV w2 (.agg #[.bool s, .slice a n c]) z) : OrdCut w (w2.alloc (.cells #[.bool s, .slice a n c] e)) (.pointer (some ⟨w2.heap.size, 0, none⟩)) z :=
  ⟨_, s, a, n, c, rfl, new_at rfl, new_at rfl, h.keep (Below.alloc (Below.refl _ _) (Nat.le_refl _) _), Below.alloc hb hb.size _⟩
theorem OrdCut.of_set {w w2 : World} {Q : Nat} {s : Bool} {a : Option Addr} {n c : Nat} {z : Int} (hb : Below w.heap.size w w2) (h : BigV w2 (.agg #[.bool s, .slice a n c]) z) (q : QB w2 Q) (hQ : w.heap.size ≤ Q) : OrdCut w ((w2.setCell ⟨Q, 0, none⟩ (.bool s)).setCell ⟨Q, 1, none⟩ (.slice a n c)) (.pointer (some ⟨Q, 0, none⟩)) z := by
  have e1 : (w2.setCell ⟨Q, 0, none⟩ (.bool s)).cell? ⟨Q, 1, none⟩ = some (.slice none 0 0) := by rw [cell_other (by intro e; simp at e)]; exact q.c1
  refine ⟨Q, s, a, n, c, rfl, ?_, cell_same e1, (h.set q.c0 (by intro n; simp) _).set e1 (by intro n; simp) _, Below.setCell (Below.setCell hb hQ _) hQ _⟩
  rw [cell_other (by intro e; simp at e)]; exact cell_same q.c0

set_option maxHeartbeats 8000000 in
set_option maxRecDepth 100000 in
theorem rord1_any (x y : Int) (v v' : Value) (w : World) (h : BigV w v x) (h' : BigV w v' y) (lx : x.natAbs < 2 ^ 1000) (ly : y.natAbs < 2 ^ 1000) :
    Calls Tryz.prog 42 #[v, v'] w fun e w' => e = .returned (.int .i64 (x - y).sign) ∧ Below w.heap.size w w' := by
  obtain ⟨sx, ax, kx, cx, rfl, hx⟩ := h.shape
  obtain ⟨sy, ay, ky, cy, rfl, hy⟩ := h'.shape
  have HX := Lib.hid hx
  have HY := Lib.hid hy
  have HN := Lib.hid (fun v w (h : BigV w v y) => rnegv y v w h)
  have HA := Lib.hid (fun v v' w (h : BigV w v x) (h' : BigV w v' (-y)) => radd_any x (-y) v v' w h h' lx (by rw [Int.natAbs_neg]; exact ly))
  rw [show x + -y = x - y by omega] at HA
  generalize x - y = z at *
  clear h h' hx hy lx ly
  go_enter Tryz.func42, Tryz.ntmps42
  go_wp2_with fail
  have HK := Lib.hid (HeldV.two w [.bool sx, .slice ax kx cx] [.bool sy, .slice ay ky cy] 66 66)
  generalize ((w.alloc (.cells #[.bool sx, .slice ax kx cx] 66)).alloc (.cells #[.bool sy, .slice ay ky cy] 66)) = W at HK ⊢
  obtain ⟨x0, _⟩ := HK.out.get 1 rfl 0 rfl
  obtain ⟨x1, _⟩ := HK.out.get 1 rfl 1 rfl
  obtain ⟨y0, _⟩ := HK.out.get 0 rfl 0 rfl
  obtain ⟨y1, _⟩ := HK.out.get 0 rfl 1 rfl
  have lx := HK.out.lt 1 rfl
  have ly := HK.out.lt 0 rfl
  have hWs := HK.out.bel.size
  have HN1 := Lib.hid (HN.out _ W.drew (HY.out.keep HK.out.bel.drew))
  have HN2 := Lib.hid (fun o => HN.out _ (W.alloc o).drew (HY.out.keep (Below.drew (Below.alloc HK.out.bel HK.out.bel.size o))))
  go_cut [5] (fun t wx => OrdCut w wx t z)
  case first =>
    go_region_with (first | (go_at_call 45; (first | (with_reducible refine HN1.out.mono ?_) | refine (HN2.out _).mono ?_); rintro e w1 ⟨⟨v1, rfl, hv1⟩, hb1⟩; obtain ⟨s1, a1, k1, c1, hve, hv1'⟩ := hv1.shape; (first | (have HK1 := Lib.hid (HK.out.keep (undrewB hb1))) | (have HK1 := Lib.hid (HK.out.keep (allocdB hb1)); have HQ1 := Lib.hid (QB.of_drew hb1))); have V1 := Lib.hid hv1'; obtain ⟨x0', _⟩ := HK1.out.get 1 rfl 0 rfl; obtain ⟨x1', _⟩ := HK1.out.get 1 rfl 1 rfl; have lx1 := HK1.out.lt 1 rfl; have HA1 := Lib.hid (HA.out _ _ w1 (HX.out.keep HK1.out.bel) hv1'); have HA2 := Lib.hid (fun o => HA.out _ _ (w1.alloc o) ((HX.out.keep HK1.out.bel).keep (Below.alloc (Below.refl _ _) (Nat.le_refl _) o)) (hv1'.keep (Below.alloc (Below.refl _ _) (Nat.le_refl _) o))); subst hve; clear hv1 hv1' hb1) | (go_at_call 44; (first | (with_reducible refine HA1.out.mono ?_) | refine (HA2.out _).mono ?_); rintro e w2 ⟨⟨v2, rfl, hv2⟩, hb2⟩; obtain ⟨s2, a2, k2, c2, hve2, hv2'⟩ := hv2.shape; have V2 := Lib.hid hv2'; (first | (have HQ2 := Lib.hid (HQ1.out.keep hb2); have HK2 := Lib.hid (HK1.out.keep hb2); obtain ⟨q0, q1, g0, g1, _⟩ := id HQ2.out) | (have HK2 := Lib.hid (HK1.out.keep hb2)) | (have HQ2 := Lib.hid (QB.of_alloc hb2); have HK2 := Lib.hid (HK1.out.keep (allocB hb2)); obtain ⟨q0, q1, g0, g1, _⟩ := id HQ2.out)); subst hve2; clear hv2 hv2' hb2))
    all_goals go_wp2
    all_goals go_meet
    all_goals (first | exact OrdCut.of_new HK2.out.bel V2.out | exact OrdCut.of_set HK2.out.bel V2.out HQ2.out hWs | exact OrdCut.of_set HK2.out.bel V2.out HQ2.out HK1.out.bel.size)
  case rest =>
    obtain ⟨Q, s, a, n, c, rfl, q0, q1, hV, hbel⟩ := hcut
    have HBel := Lib.hid hbel
    obtain ⟨e1, e2⟩ := bigv_sign hV
    have hn := e2.len.1
    have hz := bitsN_len_pos (z := z)
    rw [← hn] at hz
    clear hbel hV e2 hn x0 x1 y0 y1 lx ly
    rcases Int.lt_trichotomy z 0 with g | g | g
    · have hs : s = true := by rw [e1]; exact decide_eq_true g
      have hp : 0 < n := hz.2 (by omega)
      have HS := Lib.hid (Int.sign_eq_neg_one_of_neg g)
      subst hs
      clear e1 hz g
      go_wp2_with fail
      go_ret
      exact ⟨ret_int HS.out.symm, HBel.out⟩
    · have hp : n = 0 := by
        by_cases k : n = 0
        · exact k
        · exact absurd g (hz.1 (by omega))
      subst g; subst hp
      clear e1 hz
      go_wp2_with fail
      go_ret
      exact ⟨rfl, HBel.out⟩
    · have hs : s = false := by rw [e1]; exact decide_eq_false (by omega)
      have hp : 0 < n := hz.2 (by omega)
      have HS := Lib.hid (Int.sign_eq_one_of_pos g)
      subst hs
      clear e1 hz g
      go_wp2_with fail
      go_ret
      exact ⟨ret_int HS.out.symm, HBel.out⟩

end Go.Proofs.YtfkaliammmpcfaaGreatDoor

namespace Go.Proofs.YtfkaliammmpcfaaGreatDoor
open Go.RowKit
set_option linter.unusedVariables false

set_option maxHeartbeats 8000000 in
set_option maxRecDepth 100000 in
theorem rordq_any (n1 d1 n2 d2 : Int) (v v' : Value) (w : World) (h : BigQ w v n1 d1) (h' : BigQ w v' n2 d2) (l1 : n1.natAbs < 2 ^ 400) (l2 : d1.natAbs < 2 ^ 400) (l3 : n2.natAbs < 2 ^ 400) (l4 : d2.natAbs < 2 ^ 400) :
    Calls Tryz.prog 22 #[v, v'] w fun e w' => e = .returned (.int .i64 (n1 * d2 - n2 * d1).sign) ∧ Below w.heap.size w w' := by
  obtain ⟨sn, an, kn, cn, sd, ad, kd, cd, rfl, hn1, hd1, e1, e2⟩ := h.parts
  clear e1 e2
  obtain ⟨tn, bn, jn, en, td, bd, jd, ed, rfl, hn2, hd2, e1, e2⟩ := h'.parts
  clear e1 e2
  have N1 := Lib.hid hn1
  have D1 := Lib.hid hd1
  have N2 := Lib.hid hn2
  have D2 := Lib.hid hd2
  have HMa := Lib.hid (fun v v' w (h : BigV w v (n1)) (h' : BigV w v' (d2)) => rmul_any (n1) (d2) v v' w h h' (lim_up (k := 400) (m := 1000) (by decide) l1) (lim_up (k := 400) (m := 1000) (by decide) l4))
  have HMb := Lib.hid (fun v v' w (h : BigV w v (n2)) (h' : BigV w v' (d1)) => rmul_any (n2) (d1) v v' w h h' (lim_up (k := 400) (m := 1000) (by decide) l3) (lim_up (k := 400) (m := 1000) (by decide) l2))
  have HOr := Lib.hid (fun v v' w (h : BigV w v (n1 * d2)) (h' : BigV w v' (n2 * d1)) => rord1_any (n1 * d2) (n2 * d1) v v' w h h' (lim_up (k := 400 + 400) (m := 1000) (by decide) (mul_bits l1 l4)) (lim_up (k := 400 + 400) (m := 1000) (by decide) (mul_bits l3 l2)))
  clear l1 l2 l3 l4
  clear h h' hn1 hd1 hn2 hd2
  go_enter Tryz.func22, Tryz.ntmps22
  go_wp2_with fail
  have HK := Lib.hid (HeldV.two w [.bool sn, .slice an kn cn, .bool sd, .slice ad kd cd] [.bool tn, .slice bn jn en, .bool td, .slice bd jd ed] 68 68)
  generalize ((w.alloc (.cells #[.bool sn, .slice an kn cn, .bool sd, .slice ad kd cd] 68)).alloc (.cells #[.bool tn, .slice bn jn en, .bool td, .slice bd jd ed] 68)) = W at HK ⊢
  obtain ⟨x0, _⟩ := HK.out.get 1 rfl 0 rfl
  obtain ⟨x1, _⟩ := HK.out.get 1 rfl 1 rfl
  obtain ⟨x2, _⟩ := HK.out.get 1 rfl 2 rfl
  obtain ⟨x3, _⟩ := HK.out.get 1 rfl 3 rfl
  obtain ⟨y0, _⟩ := HK.out.get 0 rfl 0 rfl
  obtain ⟨y1, _⟩ := HK.out.get 0 rfl 1 rfl
  obtain ⟨y2, _⟩ := HK.out.get 0 rfl 2 rfl
  obtain ⟨y3, _⟩ := HK.out.get 0 rfl 3 rfl
  have HW1 := Lib.hid (HMa.out _ _ W.drew (N1.out.keep HK.out.bel.drew) (D2.out.keep HK.out.bel.drew))
  go_region_held3 (fun w' => w'.cell? ⟨w.heap.size, 0, none⟩ = some (.bool sn) ∧ w'.cell? ⟨w.heap.size, 1, none⟩ = some (.slice an kn cn) ∧ w'.cell? ⟨w.heap.size, 2, none⟩ = some (.bool sd) ∧ w'.cell? ⟨w.heap.size, 3, none⟩ = some (.slice ad kd cd) ∧ w'.cell? ⟨w.heap.size + 1, 0, none⟩ = some (.bool tn) ∧ w'.cell? ⟨w.heap.size + 1, 1, none⟩ = some (.slice bn jn en) ∧ w'.cell? ⟨w.heap.size + 1, 2, none⟩ = some (.bool td) ∧ w'.cell? ⟨w.heap.size + 1, 3, none⟩ = some (.slice bd jd ed))
    (first | (with_reducible exact ⟨(four_other (by omega)).trans x0', (four_other (by omega)).trans x1', (four_other (by omega)).trans x2', (four_other (by omega)).trans x3', (four_other (by omega)).trans y0', (four_other (by omega)).trans y1', (four_other (by omega)).trans y2', (four_other (by omega)).trans y3'⟩) | go_keep)
    (first | (go_at_call 43; (with_reducible refine HW1.out.mono ?_); rintro e w1 ⟨⟨v1, rfl, hv1⟩, hb1⟩; obtain ⟨s1, a1, k1, c1, hve1, hv1'⟩ := hv1.shape; have V1 := Lib.hid hv1'; have HK1 := Lib.hid (HK.out.keep (undrewB hb1)); obtain ⟨x0', _⟩ := HK1.out.get 1 rfl 0 rfl; obtain ⟨x1', _⟩ := HK1.out.get 1 rfl 1 rfl; obtain ⟨x2', _⟩ := HK1.out.get 1 rfl 2 rfl; obtain ⟨x3', _⟩ := HK1.out.get 1 rfl 3 rfl; obtain ⟨y0', _⟩ := HK1.out.get 0 rfl 0 rfl; obtain ⟨y1', _⟩ := HK1.out.get 0 rfl 1 rfl; obtain ⟨y2', _⟩ := HK1.out.get 0 rfl 2 rfl; obtain ⟨y3', _⟩ := HK1.out.get 0 rfl 3 rfl; have HW2 := Lib.hid (HMb.out _ _ w1 (N2.out.keep HK1.out.bel) (D1.out.keep HK1.out.bel)); subst hve1; clear hv1 hv1' hb1) | (go_at_call 43; (with_reducible refine HW2.out.mono ?_); rintro e w2 ⟨⟨v2, rfl, hv2⟩, hb2⟩; obtain ⟨s2, a2, k2, c2, hve2, hv2'⟩ := hv2.shape; have V2 := Lib.hid hv2'; have HK2 := Lib.hid (HK1.out.keep hb2); have V1_2 := Lib.hid (V1.out.keep hb2); clear x0' x1' x2' x3' y0' y1' y2' y3'; obtain ⟨x0', _⟩ := HK2.out.get 1 rfl 0 rfl; obtain ⟨x1', _⟩ := HK2.out.get 1 rfl 1 rfl; obtain ⟨x2', _⟩ := HK2.out.get 1 rfl 2 rfl; obtain ⟨x3', _⟩ := HK2.out.get 1 rfl 3 rfl; obtain ⟨y0', _⟩ := HK2.out.get 0 rfl 0 rfl; obtain ⟨y1', _⟩ := HK2.out.get 0 rfl 1 rfl; obtain ⟨y2', _⟩ := HK2.out.get 0 rfl 2 rfl; obtain ⟨y3', _⟩ := HK2.out.get 0 rfl 3 rfl; have HW3 := Lib.hid (HOr.out _ _ w2 V1_2.out V2.out); subst hve2; clear hv2 hv2' hb2) | (go_at_call 42; (with_reducible refine HW3.out.mono ?_); rintro e w3 ⟨rfl, hb3⟩; have HK3 := Lib.hid (HK2.out.keep hb3); have V1_3 := Lib.hid (V1_2.out.keep hb3); have V2_3 := Lib.hid (V2.out.keep hb3); clear x0' x1' x2' x3' y0' y1' y2' y3'; obtain ⟨x0', _⟩ := HK3.out.get 1 rfl 0 rfl; obtain ⟨x1', _⟩ := HK3.out.get 1 rfl 1 rfl; obtain ⟨x2', _⟩ := HK3.out.get 1 rfl 2 rfl; obtain ⟨x3', _⟩ := HK3.out.get 1 rfl 3 rfl; obtain ⟨y0', _⟩ := HK3.out.get 0 rfl 0 rfl; obtain ⟨y1', _⟩ := HK3.out.get 0 rfl 1 rfl; obtain ⟨y2', _⟩ := HK3.out.get 0 rfl 2 rfl; obtain ⟨y3', _⟩ := HK3.out.get 0 rfl 3 rfl; clear hb3))
  go_wp2_with fail
  go_ret
  exact ⟨rfl, HK3.out.bel⟩

end Go.Proofs.YtfkaliammmpcfaaGreatDoor

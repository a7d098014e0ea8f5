/-
  chattelref02: Mul, Add, Neg, Turn.
-/
import Derived.Test.YtljhjjkbpckkjaaRefQ
namespace Go.Proofs.Ytljhjjkbpckkjaa
open Go.RowKit
set_option linter.unusedVariables false

theorem mul_bits {a b : Int} {k : Nat} (ha : a.natAbs < 2 ^ k) (hb : b.natAbs < 2 ^ k) : (a * b).natAbs < 2 ^ (k + k) := by
  rw [Int.natAbs_mul, Nat.pow_add]
  exact Nat.mul_lt_mul'' ha hb
theorem add_bits {a b : Int} {k : Nat} (ha : a.natAbs < 2 ^ k) (hb : b.natAbs < 2 ^ k) : (a + b).natAbs < 2 ^ (k + 1) := by
  rw [Nat.pow_succ]; omega
theorem four_other {w : World} {Q b i : Nat} {x0 x1 x2 x3 : Value} (h : Q ≠ b) : ((((w.setCell ⟨Q, 0, none⟩ x0).setCell ⟨Q, 1, none⟩ x1).setCell ⟨Q, 2, none⟩ x2).setCell ⟨Q, 3, none⟩ x3).cell? ⟨b, i, none⟩ = w.cell? ⟨b, i, none⟩ := by
  have co : ∀ {w : World} {o : Nat} {v : Value}, (w.setCell ⟨Q, o, none⟩ v).cell? ⟨b, i, none⟩ = w.cell? ⟨b, i, none⟩ := fun {w o v} => cell_other (by intro e; injection e with e1 e2; exact h e1)
  rw [co, co, co, co]
theorem rnegv (z : Int) (v : Value) (w : World) (h : BigV w v z) : Calls Try.prog 67 #[v] w fun e w' => (∃ v, e = .returned v ∧ BigV w' v (-z)) ∧ Below w.heap.size w w' := by
  obtain ⟨a, c, rfl, g⟩ := h.open
  exact rneg_any z a c w g

set_option maxHeartbeats 8000000 in
set_option maxRecDepth 100000 in
theorem rmulq_any (n1 d1 n2 d2 : Int) (v v' : Value) (w : World) (h : BigQ w v n1 d1) (h' : BigQ w v' n2 d2) (l1 : n1.natAbs < 2 ^ 400) (l2 : d1.natAbs < 2 ^ 400) (l3 : n2.natAbs < 2 ^ 400) (l4 : d2.natAbs < 2 ^ 400) :
    Calls Try.prog 33 #[v, v'] w fun e w' => (∃ v, e = .returned v ∧ BigQ w' v (n1 * n2) (d1 * d2)) ∧ Below w.heap.size w w' := by
  obtain ⟨sn, an, kn, cn, sd, ad, kd, cd, rfl, hn1, hd1, e1, e2⟩ := h.parts
  clear e1 e2
  obtain ⟨tn, bn, jn, en, td, bd, jd, ed, rfl, hn2, hd2, e1, e2⟩ := h'.parts
  clear e1 e2
  have N1 := Lib.hid hn1
  have D1 := Lib.hid hd1
  have N2 := Lib.hid hn2
  have D2 := Lib.hid hd2
  have HMa := Lib.hid (fun v v' w (h : BigV w v n1) (h' : BigV w v' n2) => rmul_any n1 n2 v v' w h h' (lim_up (k := 400) (m := 1000) (by decide) l1) (lim_up (k := 400) (m := 1000) (by decide) l3))
  have HMb := Lib.hid (fun v v' w (h : BigV w v d1) (h' : BigV w v' d2) => rmul_any d1 d2 v v' w h h' (lim_up (k := 400) (m := 1000) (by decide) l2) (lim_up (k := 400) (m := 1000) (by decide) l4))
  clear l1 l2 l3 l4
  clear h h' hn1 hd1 hn2 hd2
  go_enter Try.func33, Try.ntmps33
  go_wp2_with fail
  have HK := Lib.hid (HeldV.three w [.bool sn, .slice an kn cn, .bool sd, .slice ad kd cd] [.bool tn, .slice bn jn en, .bool td, .slice bd jd ed] [.bool false, .slice none 0 0, .bool false, .slice none 0 0] 48 48 48)
  generalize (((w.alloc (.cells #[.bool sn, .slice an kn cn, .bool sd, .slice ad kd cd] 48)).alloc (.cells #[.bool tn, .slice bn jn en, .bool td, .slice bd jd ed] 48)).alloc (.cells #[.bool false, .slice none 0 0, .bool false, .slice none 0 0] 48)) = W at HK ⊢
  obtain ⟨x0, _⟩ := HK.out.get 2 rfl 0 rfl
  obtain ⟨x1, _⟩ := HK.out.get 2 rfl 1 rfl
  obtain ⟨x2, _⟩ := HK.out.get 2 rfl 2 rfl
  obtain ⟨x3, _⟩ := HK.out.get 2 rfl 3 rfl
  obtain ⟨y0, _⟩ := HK.out.get 1 rfl 0 rfl
  obtain ⟨y1, _⟩ := HK.out.get 1 rfl 1 rfl
  obtain ⟨y2, _⟩ := HK.out.get 1 rfl 2 rfl
  obtain ⟨y3, _⟩ := HK.out.get 1 rfl 3 rfl
  have HW1 := Lib.hid (HMa.out _ _ W.drew (N1.out.keep HK.out.bel.drew) (N2.out.keep HK.out.bel.drew))
  go_region_held3 (fun w' => w'.cell? ⟨w.heap.size, 0, none⟩ = some (.bool sn) ∧ w'.cell? ⟨w.heap.size, 1, none⟩ = some (.slice an kn cn) ∧ w'.cell? ⟨w.heap.size, 2, none⟩ = some (.bool sd) ∧ w'.cell? ⟨w.heap.size, 3, none⟩ = some (.slice ad kd cd) ∧ w'.cell? ⟨w.heap.size + 1, 0, none⟩ = some (.bool tn) ∧ w'.cell? ⟨w.heap.size + 1, 1, none⟩ = some (.slice bn jn en) ∧ w'.cell? ⟨w.heap.size + 1, 2, none⟩ = some (.bool td) ∧ w'.cell? ⟨w.heap.size + 1, 3, none⟩ = some (.slice bd jd ed))
    (first | (with_reducible exact ⟨(four_other (by omega)).trans x0', (four_other (by omega)).trans x1', (four_other (by omega)).trans x2', (four_other (by omega)).trans x3', (four_other (by omega)).trans y0', (four_other (by omega)).trans y1', (four_other (by omega)).trans y2', (four_other (by omega)).trans y3'⟩) | go_keep)
    (first | (go_at_call 14; (with_reducible refine HW1.out.mono ?_); rintro e w1 ⟨⟨v1, rfl, hv1⟩, hb1⟩; obtain ⟨s1, a1, k1, c1, hve1, hv1'⟩ := hv1.shape; have V1 := Lib.hid hv1'; have HK1 := Lib.hid (HK.out.keep (undrewB hb1)); obtain ⟨x0', _⟩ := HK1.out.get 2 rfl 0 rfl; obtain ⟨x1', _⟩ := HK1.out.get 2 rfl 1 rfl; obtain ⟨x2', _⟩ := HK1.out.get 2 rfl 2 rfl; obtain ⟨x3', _⟩ := HK1.out.get 2 rfl 3 rfl; obtain ⟨y0', _⟩ := HK1.out.get 1 rfl 0 rfl; obtain ⟨y1', _⟩ := HK1.out.get 1 rfl 1 rfl; obtain ⟨y2', _⟩ := HK1.out.get 1 rfl 2 rfl; obtain ⟨y3', _⟩ := HK1.out.get 1 rfl 3 rfl; have HW2 := Lib.hid (HMb.out _ _ w1 (D1.out.keep HK1.out.bel) (D2.out.keep HK1.out.bel)); subst hve1; clear hv1 hv1' hb1) | (go_at_call 14; (with_reducible refine HW2.out.mono ?_); rintro e w2 ⟨⟨v2, rfl, hv2⟩, hb2⟩; obtain ⟨s2, a2, k2, c2, hve2, hv2'⟩ := hv2.shape; have V2 := Lib.hid hv2'; have HK2 := Lib.hid (HK1.out.keep hb2); have V1_2 := Lib.hid (V1.out.keep hb2); clear x0' x1' x2' x3' y0' y1' y2' y3'; obtain ⟨x0', _⟩ := HK2.out.get 2 rfl 0 rfl; obtain ⟨x1', _⟩ := HK2.out.get 2 rfl 1 rfl; obtain ⟨x2', _⟩ := HK2.out.get 2 rfl 2 rfl; obtain ⟨x3', _⟩ := HK2.out.get 2 rfl 3 rfl; obtain ⟨y0', _⟩ := HK2.out.get 1 rfl 0 rfl; obtain ⟨y1', _⟩ := HK2.out.get 1 rfl 1 rfl; obtain ⟨y2', _⟩ := HK2.out.get 1 rfl 2 rfl; obtain ⟨y3', _⟩ := HK2.out.get 1 rfl 3 rfl; obtain ⟨r0, g0⟩ := HK2.out.get 0 rfl 0 rfl; obtain ⟨r1, g1⟩ := HK2.out.get 0 rfl 1 rfl; obtain ⟨r2, g2⟩ := HK2.out.get 0 rfl 2 rfl; obtain ⟨r3, g3⟩ := HK2.out.get 0 rfl 3 rfl; subst hve2; clear hv2 hv2' hb2))
  go_wp2
  exact bodyPost_ret (v := .agg #[.bool s1, .slice a1 k1 c1, .bool s2, .slice a2 k2 c2]) (by simp [results, Try.results33, go_sem, r0, r1, r2, r3]) rfl ⟨⟨_, rfl, BigQ.of (four_stored V1_2.out r0 r1 r2 r3 _ _ _ _) (four_stored V2.out r0 r1 r2 r3 _ _ _ _)⟩, four_below HK2.out.bel (by omega) _ _ _ _⟩

set_option maxHeartbeats 8000000 in
set_option maxRecDepth 100000 in
theorem raddq_any (n1 d1 n2 d2 : Int) (v v' : Value) (w : World) (h : BigQ w v n1 d1) (h' : BigQ w v' n2 d2) (l1 : n1.natAbs < 2 ^ 400) (l2 : d1.natAbs < 2 ^ 400) (l3 : n2.natAbs < 2 ^ 400) (l4 : d2.natAbs < 2 ^ 400) :
    Calls Try.prog 31 #[v, v'] w fun e w' => (∃ v, e = .returned v ∧ BigQ w' v (n1 * d2 + n2 * d1) (d1 * d2)) ∧ Below w.heap.size w w' := by
  obtain ⟨sn, an, kn, cn, sd, ad, kd, cd, rfl, hn1, hd1, e1, e2⟩ := h.parts
  clear e1 e2
  obtain ⟨tn, bn, jn, en, td, bd, jd, ed, rfl, hn2, hd2, e1, e2⟩ := h'.parts
  clear e1 e2
  have N1 := Lib.hid hn1
  have D1 := Lib.hid hd1
  have N2 := Lib.hid hn2
  have D2 := Lib.hid hd2
  have HMa := Lib.hid (fun v v' w (h : BigV w v (n1)) (h' : BigV w v' (d2)) => rmul_any (n1) (d2) v v' w h h' (lim_up (k := 400) (m := 1000) (by decide) l1) (lim_up (k := 400) (m := 1000) (by decide) l4))
  have HMb := Lib.hid (fun v v' w (h : BigV w v (n2)) (h' : BigV w v' (d1)) => rmul_any (n2) (d1) v v' w h h' (lim_up (k := 400) (m := 1000) (by decide) l3) (lim_up (k := 400) (m := 1000) (by decide) l2))
  have HMc := Lib.hid (fun v v' w (h : BigV w v (d1)) (h' : BigV w v' (d2)) => rmul_any (d1) (d2) v v' w h h' (lim_up (k := 400) (m := 1000) (by decide) l2) (lim_up (k := 400) (m := 1000) (by decide) l4))
  have HAd := Lib.hid (fun v v' w (h : BigV w v (n1 * d2)) (h' : BigV w v' (n2 * d1)) => radd_any (n1 * d2) (n2 * d1) v v' w h h' (lim_up (k := 400 + 400) (m := 1000) (by decide) (mul_bits l1 l4)) (lim_up (k := 400 + 400) (m := 1000) (by decide) (mul_bits l3 l2)))
  clear l1 l2 l3 l4
  clear h h' hn1 hd1 hn2 hd2
  go_enter Try.func31, Try.ntmps31
  go_wp2_with fail
  have HK := Lib.hid (HeldV.three w [.bool sn, .slice an kn cn, .bool sd, .slice ad kd cd] [.bool tn, .slice bn jn en, .bool td, .slice bd jd ed] [.bool false, .slice none 0 0, .bool false, .slice none 0 0] 48 48 48)
  generalize (((w.alloc (.cells #[.bool sn, .slice an kn cn, .bool sd, .slice ad kd cd] 48)).alloc (.cells #[.bool tn, .slice bn jn en, .bool td, .slice bd jd ed] 48)).alloc (.cells #[.bool false, .slice none 0 0, .bool false, .slice none 0 0] 48)) = W at HK ⊢
  obtain ⟨x0, _⟩ := HK.out.get 2 rfl 0 rfl
  obtain ⟨x1, _⟩ := HK.out.get 2 rfl 1 rfl
  obtain ⟨x2, _⟩ := HK.out.get 2 rfl 2 rfl
  obtain ⟨x3, _⟩ := HK.out.get 2 rfl 3 rfl
  obtain ⟨y0, _⟩ := HK.out.get 1 rfl 0 rfl
  obtain ⟨y1, _⟩ := HK.out.get 1 rfl 1 rfl
  obtain ⟨y2, _⟩ := HK.out.get 1 rfl 2 rfl
  obtain ⟨y3, _⟩ := HK.out.get 1 rfl 3 rfl
  have HW1 := Lib.hid (HMa.out _ _ W.drew (N1.out.keep HK.out.bel.drew) (D2.out.keep HK.out.bel.drew))
  go_region_held3 (fun w' => w'.cell? ⟨w.heap.size, 0, none⟩ = some (.bool sn) ∧ w'.cell? ⟨w.heap.size, 1, none⟩ = some (.slice an kn cn) ∧ w'.cell? ⟨w.heap.size, 2, none⟩ = some (.bool sd) ∧ w'.cell? ⟨w.heap.size, 3, none⟩ = some (.slice ad kd cd) ∧ w'.cell? ⟨w.heap.size + 1, 0, none⟩ = some (.bool tn) ∧ w'.cell? ⟨w.heap.size + 1, 1, none⟩ = some (.slice bn jn en) ∧ w'.cell? ⟨w.heap.size + 1, 2, none⟩ = some (.bool td) ∧ w'.cell? ⟨w.heap.size + 1, 3, none⟩ = some (.slice bd jd ed))
    (first | (with_reducible exact ⟨(four_other (by omega)).trans x0', (four_other (by omega)).trans x1', (four_other (by omega)).trans x2', (four_other (by omega)).trans x3', (four_other (by omega)).trans y0', (four_other (by omega)).trans y1', (four_other (by omega)).trans y2', (four_other (by omega)).trans y3'⟩) | go_keep)
    (first | (go_at_call 14; (with_reducible refine HW1.out.mono ?_); rintro e w1 ⟨⟨v1, rfl, hv1⟩, hb1⟩; obtain ⟨s1, a1, k1, c1, hve1, hv1'⟩ := hv1.shape; have V1 := Lib.hid hv1'; have HK1 := Lib.hid (HK.out.keep (undrewB hb1)); obtain ⟨x0', _⟩ := HK1.out.get 2 rfl 0 rfl; obtain ⟨x1', _⟩ := HK1.out.get 2 rfl 1 rfl; obtain ⟨x2', _⟩ := HK1.out.get 2 rfl 2 rfl; obtain ⟨x3', _⟩ := HK1.out.get 2 rfl 3 rfl; obtain ⟨y0', _⟩ := HK1.out.get 1 rfl 0 rfl; obtain ⟨y1', _⟩ := HK1.out.get 1 rfl 1 rfl; obtain ⟨y2', _⟩ := HK1.out.get 1 rfl 2 rfl; obtain ⟨y3', _⟩ := HK1.out.get 1 rfl 3 rfl; have HW2 := Lib.hid (HMb.out _ _ w1 (N2.out.keep HK1.out.bel) (D1.out.keep HK1.out.bel)); subst hve1; clear hv1 hv1' hb1) | (go_at_call 14; (with_reducible refine HW2.out.mono ?_); rintro e w2 ⟨⟨v2, rfl, hv2⟩, hb2⟩; obtain ⟨s2, a2, k2, c2, hve2, hv2'⟩ := hv2.shape; have V2 := Lib.hid hv2'; have HK2 := Lib.hid (HK1.out.keep hb2); have V1_2 := Lib.hid (V1.out.keep hb2); clear x0' x1' x2' x3' y0' y1' y2' y3'; obtain ⟨x0', _⟩ := HK2.out.get 2 rfl 0 rfl; obtain ⟨x1', _⟩ := HK2.out.get 2 rfl 1 rfl; obtain ⟨x2', _⟩ := HK2.out.get 2 rfl 2 rfl; obtain ⟨x3', _⟩ := HK2.out.get 2 rfl 3 rfl; obtain ⟨y0', _⟩ := HK2.out.get 1 rfl 0 rfl; obtain ⟨y1', _⟩ := HK2.out.get 1 rfl 1 rfl; obtain ⟨y2', _⟩ := HK2.out.get 1 rfl 2 rfl; obtain ⟨y3', _⟩ := HK2.out.get 1 rfl 3 rfl; have HW3 := Lib.hid (HAd.out _ _ w2 V1_2.out V2.out); subst hve2; clear hv2 hv2' hb2) | (go_at_call 49; (with_reducible refine HW3.out.mono ?_); rintro e w3 ⟨⟨v3, rfl, hv3⟩, hb3⟩; obtain ⟨s3, a3, k3, c3, hve3, hv3'⟩ := hv3.shape; have V3 := Lib.hid hv3'; have HK3 := Lib.hid (HK2.out.keep hb3); have V1_3 := Lib.hid (V1_2.out.keep hb3); have V2_3 := Lib.hid (V2.out.keep hb3); clear x0' x1' x2' x3' y0' y1' y2' y3'; obtain ⟨x0', _⟩ := HK3.out.get 2 rfl 0 rfl; obtain ⟨x1', _⟩ := HK3.out.get 2 rfl 1 rfl; obtain ⟨x2', _⟩ := HK3.out.get 2 rfl 2 rfl; obtain ⟨x3', _⟩ := HK3.out.get 2 rfl 3 rfl; obtain ⟨y0', _⟩ := HK3.out.get 1 rfl 0 rfl; obtain ⟨y1', _⟩ := HK3.out.get 1 rfl 1 rfl; obtain ⟨y2', _⟩ := HK3.out.get 1 rfl 2 rfl; obtain ⟨y3', _⟩ := HK3.out.get 1 rfl 3 rfl; have HW4 := Lib.hid (HMc.out _ _ w3 (D1.out.keep HK3.out.bel) (D2.out.keep HK3.out.bel)); subst hve3; clear hv3 hv3' hb3) | (go_at_call 14; (with_reducible refine HW4.out.mono ?_); rintro e w4 ⟨⟨v4, rfl, hv4⟩, hb4⟩; obtain ⟨s4, a4, k4, c4, hve4, hv4'⟩ := hv4.shape; have V4 := Lib.hid hv4'; have HK4 := Lib.hid (HK3.out.keep hb4); have V1_4 := Lib.hid (V1_3.out.keep hb4); have V2_4 := Lib.hid (V2_3.out.keep hb4); have V3_4 := Lib.hid (V3.out.keep hb4); clear x0' x1' x2' x3' y0' y1' y2' y3'; obtain ⟨x0', _⟩ := HK4.out.get 2 rfl 0 rfl; obtain ⟨x1', _⟩ := HK4.out.get 2 rfl 1 rfl; obtain ⟨x2', _⟩ := HK4.out.get 2 rfl 2 rfl; obtain ⟨x3', _⟩ := HK4.out.get 2 rfl 3 rfl; obtain ⟨y0', _⟩ := HK4.out.get 1 rfl 0 rfl; obtain ⟨y1', _⟩ := HK4.out.get 1 rfl 1 rfl; obtain ⟨y2', _⟩ := HK4.out.get 1 rfl 2 rfl; obtain ⟨y3', _⟩ := HK4.out.get 1 rfl 3 rfl; obtain ⟨r0, g0⟩ := HK4.out.get 0 rfl 0 rfl; obtain ⟨r1, g1⟩ := HK4.out.get 0 rfl 1 rfl; obtain ⟨r2, g2⟩ := HK4.out.get 0 rfl 2 rfl; obtain ⟨r3, g3⟩ := HK4.out.get 0 rfl 3 rfl; subst hve4; clear hv4 hv4' hb4))
  go_wp2
  exact bodyPost_ret (v := .agg #[.bool s3, .slice a3 k3 c3, .bool s4, .slice a4 k4 c4]) (by simp [results, Try.results31, go_sem, r0, r1, r2, r3]) rfl ⟨⟨_, rfl, BigQ.of (four_stored V3_4.out r0 r1 r2 r3 _ _ _ _) (four_stored V4.out r0 r1 r2 r3 _ _ _ _)⟩, four_below HK4.out.bel (by omega) _ _ _ _⟩

set_option maxHeartbeats 8000000 in
set_option maxRecDepth 100000 in
theorem rnegq_any (n1 d1 : Int) (v : Value) (w : World) (h : BigQ w v n1 d1) :
    Calls Try.prog 32 #[v] w fun e w' => (∃ v, e = .returned v ∧ BigQ w' v (-n1) (d1)) ∧ Below w.heap.size w w' := by
  obtain ⟨sn, an, kn, cn, sd, ad, kd, cd, rfl, hn1, hd1, e1, e2⟩ := h.parts
  clear e1 e2
  have N1 := Lib.hid hn1
  have D1 := Lib.hid hd1
  clear h hn1 hd1
  go_enter Try.func32, Try.ntmps32
  go_wp2_with fail
  have HK := Lib.hid (HeldV.two w [.bool sn, .slice an kn cn, .bool sd, .slice ad kd cd] [.bool false, .slice none 0 0, .bool false, .slice none 0 0] 48 48)
  generalize ((w.alloc (.cells #[.bool sn, .slice an kn cn, .bool sd, .slice ad kd cd] 48)).alloc (.cells #[.bool false, .slice none 0 0, .bool false, .slice none 0 0] 48)) = W at HK ⊢
  obtain ⟨x0, _⟩ := HK.out.get 1 rfl 0 rfl
  obtain ⟨x1, _⟩ := HK.out.get 1 rfl 1 rfl
  obtain ⟨x2, _⟩ := HK.out.get 1 rfl 2 rfl
  obtain ⟨x3, _⟩ := HK.out.get 1 rfl 3 rfl
  have HW1 := Lib.hid (rnegv n1 _ W.drew (N1.out.keep HK.out.bel.drew))
  go_region_held3 (fun w' => w'.cell? ⟨w.heap.size, 0, none⟩ = some (.bool sn) ∧ w'.cell? ⟨w.heap.size, 1, none⟩ = some (.slice an kn cn) ∧ w'.cell? ⟨w.heap.size, 2, none⟩ = some (.bool sd) ∧ w'.cell? ⟨w.heap.size, 3, none⟩ = some (.slice ad kd cd))
    (first | (with_reducible exact ⟨(four_other (by omega)).trans x0', (four_other (by omega)).trans x1', (four_other (by omega)).trans x2', (four_other (by omega)).trans x3'⟩) | go_keep)
    (first | (go_at_call 67; (with_reducible refine HW1.out.mono ?_); rintro e w1 ⟨⟨v1, rfl, hv1⟩, hb1⟩; obtain ⟨s1, a1, k1, c1, hve1, hv1'⟩ := hv1.shape; have V1 := Lib.hid hv1'; have HK1 := Lib.hid (HK.out.keep (undrewB hb1)); obtain ⟨x0', _⟩ := HK1.out.get 1 rfl 0 rfl; obtain ⟨x1', _⟩ := HK1.out.get 1 rfl 1 rfl; obtain ⟨x2', _⟩ := HK1.out.get 1 rfl 2 rfl; obtain ⟨x3', _⟩ := HK1.out.get 1 rfl 3 rfl; obtain ⟨r0, g0⟩ := HK1.out.get 0 rfl 0 rfl; obtain ⟨r1, g1⟩ := HK1.out.get 0 rfl 1 rfl; obtain ⟨r2, g2⟩ := HK1.out.get 0 rfl 2 rfl; obtain ⟨r3, g3⟩ := HK1.out.get 0 rfl 3 rfl; subst hve1; clear hv1 hv1' hb1))
  have D1' := Lib.hid (D1.out.keep HK1.out.bel)
  go_wp2
  exact bodyPost_ret (v := .agg #[.bool s1, .slice a1 k1 c1, .bool sd, .slice ad kd cd]) (by simp [results, Try.results32, go_sem, r0, r1, r2, r3]) rfl ⟨⟨_, rfl, BigQ.of (four_stored V1.out r0 r1 r2 r3 _ _ _ _) (four_stored D1'.out r0 r1 r2 r3 _ _ _ _)⟩, four_below HK1.out.bel (by omega) _ _ _ _⟩

theorem rturn_any (n1 d1 : Int) (v : Value) (w : World) (h : BigQ w v n1 d1) :
    Calls Try.prog 34 #[v] w fun e w' => (∃ v, e = .returned v ∧ BigQ w' v d1 n1) ∧ Below w.heap.size w w' := by
  obtain ⟨sn, an, kn, cn, sd, ad, kd, cd, rfl, hn1, hd1, e1, e2⟩ := h.parts
  clear e1 e2
  have hb : Below w.heap.size w ((w.alloc (.cells #[.bool sn, .slice an kn cn, .bool sd, .slice ad kd cd] 48)).alloc (.cells #[.bool sd, .slice ad kd cd, .bool sn, .slice an kn cn] 48)) := Below.alloc (Below.alloc (Below.refl _ _) (Nat.le_refl _) _) (by simp) _
  have HB := Lib.hid hb
  have HQ := Lib.hid (BigQ.of (hd1.keep hb) (hn1.keep hb))
  clear h hn1 hd1 hb
  go_enter Try.func34, Try.ntmps34
  go_wp2
  exact bodyPost_ret (v := .agg #[.bool sd, .slice ad kd cd, .bool sn, .slice an kn cn]) (by simp [results, Try.results34, go_sem]) rfl ⟨⟨_, rfl, HQ.out⟩, HB.out⟩

end Go.Proofs.Ytljhjjkbpckkjaa

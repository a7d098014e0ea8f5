/-
  chattelref02's Order.
-/
import Derived.Test.YtljhjjkbpckkjaaRefT
namespace Go.Proofs.Ytljhjjkbpckkjaa
open Go.RowKit
set_option linter.unusedVariables false

set_option maxHeartbeats 8000000 in
set_option maxRecDepth 100000 in
theorem rordq_any (n1 d1 n2 d2 : Int) (v v' : Value) (w : World) (h : BigQ w v n1 d1) (h' : BigQ w v' n2 d2) (l1 : n1.natAbs < 2 ^ 400) (l2 : d1.natAbs < 2 ^ 400) (l3 : n2.natAbs < 2 ^ 400) (l4 : d2.natAbs < 2 ^ 400) :
    Calls Try.prog 38 #[v, v'] w fun e w' => e = .returned (.int .i64 (n1 * d2 - n2 * d1).sign) ∧ Below w.heap.size w w' := by
  obtain ⟨sn, an, kn, cn, sd, ad, kd, cd, rfl, hn1, hd1, e1, e2⟩ := h.parts
  clear e1 e2
  obtain ⟨tn, bn, jn, en, td, bd, jd, ed, rfl, hn2, hd2, e1, e2⟩ := h'.parts
  clear e1 e2
  have N1 := Lib.hid hn1
  have D1 := Lib.hid hd1
  have N2 := Lib.hid hn2
  have D2 := Lib.hid hd2
  have HMa := Lib.hid (fun v v' w (h : BigV w v (n1)) (h' : BigV w v' (d2)) => rmul_any (n1) (d2) v v' w h h' (lim_up (k := 400) (m := 1000) (by decide) l1) (lim_up (k := 400) (m := 1000) (by decide) l4))
  have HMb := Lib.hid (fun v v' w (h : BigV w v (n2)) (h' : BigV w v' (d1)) => rmul_any (n2) (d1) v v' w h h' (lim_up (k := 400) (m := 1000) (by decide) l3) (lim_up (k := 400) (m := 1000) (by decide) l2))
  have HOr := Lib.hid (fun v v' w (h : BigV w v (n1 * d2)) (h' : BigV w v' (n2 * d1)) => rord1_any (n1 * d2) (n2 * d1) v v' w h h' (lim_up (k := 400 + 400) (m := 1000) (by decide) (mul_bits l1 l4)) (lim_up (k := 400 + 400) (m := 1000) (by decide) (mul_bits l3 l2)))
  clear l1 l2 l3 l4
  clear h h' hn1 hd1 hn2 hd2
  go_enter Try.func38, Try.ntmps38
  go_wp2_with fail
  have HK := Lib.hid (HeldV.two w [.bool sn, .slice an kn cn, .bool sd, .slice ad kd cd] [.bool tn, .slice bn jn en, .bool td, .slice bd jd ed] 48 48)
  generalize ((w.alloc (.cells #[.bool sn, .slice an kn cn, .bool sd, .slice ad kd cd] 48)).alloc (.cells #[.bool tn, .slice bn jn en, .bool td, .slice bd jd ed] 48)) = W at HK ⊢
  obtain ⟨x0, _⟩ := HK.out.get 1 rfl 0 rfl
  obtain ⟨x1, _⟩ := HK.out.get 1 rfl 1 rfl
  obtain ⟨x2, _⟩ := HK.out.get 1 rfl 2 rfl
  obtain ⟨x3, _⟩ := HK.out.get 1 rfl 3 rfl
  obtain ⟨y0, _⟩ := HK.out.get 0 rfl 0 rfl
  obtain ⟨y1, _⟩ := HK.out.get 0 rfl 1 rfl
  obtain ⟨y2, _⟩ := HK.out.get 0 rfl 2 rfl
  obtain ⟨y3, _⟩ := HK.out.get 0 rfl 3 rfl
  have HW1 := Lib.hid (HMa.out _ _ W.drew (N1.out.keep HK.out.bel.drew) (D2.out.keep HK.out.bel.drew))
  go_region_held3 (fun w' => w'.cell? ⟨w.heap.size, 0, none⟩ = some (.bool sn) ∧ w'.cell? ⟨w.heap.size, 1, none⟩ = some (.slice an kn cn) ∧ w'.cell? ⟨w.heap.size, 2, none⟩ = some (.bool sd) ∧ w'.cell? ⟨w.heap.size, 3, none⟩ = some (.slice ad kd cd) ∧ w'.cell? ⟨w.heap.size + 1, 0, none⟩ = some (.bool tn) ∧ w'.cell? ⟨w.heap.size + 1, 1, none⟩ = some (.slice bn jn en) ∧ w'.cell? ⟨w.heap.size + 1, 2, none⟩ = some (.bool td) ∧ w'.cell? ⟨w.heap.size + 1, 3, none⟩ = some (.slice bd jd ed))
    (first | (with_reducible exact ⟨(four_other (by omega)).trans x0', (four_other (by omega)).trans x1', (four_other (by omega)).trans x2', (four_other (by omega)).trans x3', (four_other (by omega)).trans y0', (four_other (by omega)).trans y1', (four_other (by omega)).trans y2', (four_other (by omega)).trans y3'⟩) | go_keep)
    (first | (go_at_call 14; (with_reducible refine HW1.out.mono ?_); rintro e w1 ⟨⟨v1, rfl, hv1⟩, hb1⟩; obtain ⟨s1, a1, k1, c1, hve1, hv1'⟩ := hv1.shape; have V1 := Lib.hid hv1'; have HK1 := Lib.hid (HK.out.keep (undrewB hb1)); obtain ⟨x0', _⟩ := HK1.out.get 1 rfl 0 rfl; obtain ⟨x1', _⟩ := HK1.out.get 1 rfl 1 rfl; obtain ⟨x2', _⟩ := HK1.out.get 1 rfl 2 rfl; obtain ⟨x3', _⟩ := HK1.out.get 1 rfl 3 rfl; obtain ⟨y0', _⟩ := HK1.out.get 0 rfl 0 rfl; obtain ⟨y1', _⟩ := HK1.out.get 0 rfl 1 rfl; obtain ⟨y2', _⟩ := HK1.out.get 0 rfl 2 rfl; obtain ⟨y3', _⟩ := HK1.out.get 0 rfl 3 rfl; have HW2 := Lib.hid (HMb.out _ _ w1 (N2.out.keep HK1.out.bel) (D1.out.keep HK1.out.bel)); subst hve1; clear hv1 hv1' hb1) | (go_at_call 14; (with_reducible refine HW2.out.mono ?_); rintro e w2 ⟨⟨v2, rfl, hv2⟩, hb2⟩; obtain ⟨s2, a2, k2, c2, hve2, hv2'⟩ := hv2.shape; have V2 := Lib.hid hv2'; have HK2 := Lib.hid (HK1.out.keep hb2); have V1_2 := Lib.hid (V1.out.keep hb2); clear x0' x1' x2' x3' y0' y1' y2' y3'; obtain ⟨x0', _⟩ := HK2.out.get 1 rfl 0 rfl; obtain ⟨x1', _⟩ := HK2.out.get 1 rfl 1 rfl; obtain ⟨x2', _⟩ := HK2.out.get 1 rfl 2 rfl; obtain ⟨x3', _⟩ := HK2.out.get 1 rfl 3 rfl; obtain ⟨y0', _⟩ := HK2.out.get 0 rfl 0 rfl; obtain ⟨y1', _⟩ := HK2.out.get 0 rfl 1 rfl; obtain ⟨y2', _⟩ := HK2.out.get 0 rfl 2 rfl; obtain ⟨y3', _⟩ := HK2.out.get 0 rfl 3 rfl; have HW3 := Lib.hid (HOr.out _ _ w2 V1_2.out V2.out); subst hve2; clear hv2 hv2' hb2) | (go_at_call 53; (with_reducible refine HW3.out.mono ?_); rintro e w3 ⟨rfl, hb3⟩; have HK3 := Lib.hid (HK2.out.keep hb3); have V1_3 := Lib.hid (V1_2.out.keep hb3); have V2_3 := Lib.hid (V2.out.keep hb3); clear x0' x1' x2' x3' y0' y1' y2' y3'; obtain ⟨x0', _⟩ := HK3.out.get 1 rfl 0 rfl; obtain ⟨x1', _⟩ := HK3.out.get 1 rfl 1 rfl; obtain ⟨x2', _⟩ := HK3.out.get 1 rfl 2 rfl; obtain ⟨x3', _⟩ := HK3.out.get 1 rfl 3 rfl; obtain ⟨y0', _⟩ := HK3.out.get 0 rfl 0 rfl; obtain ⟨y1', _⟩ := HK3.out.get 0 rfl 1 rfl; obtain ⟨y2', _⟩ := HK3.out.get 0 rfl 2 rfl; obtain ⟨y3', _⟩ := HK3.out.get 0 rfl 3 rfl; clear hb3))
  go_wp2_with fail
  go_ret
  exact ⟨rfl, HK3.out.bel⟩

end Go.Proofs.Ytljhjjkbpckkjaa

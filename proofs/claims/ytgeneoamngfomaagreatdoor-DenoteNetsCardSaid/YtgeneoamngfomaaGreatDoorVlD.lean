/-
  Package value: ofNode: what it answers.
-/
import Derived.Test.YtgeneoamngfomaaGreatDoorVlB
import Derived.Deep.RegionHeld3
namespace Go.Proofs.YtgeneoamngfomaaGreatDoor
open Go.RowKit Go.Lib Go.Maps
set_option linter.unusedVariables false
set_option linter.unusedSimpArgs false

/-- What is known of a key at a day, as a number. -/
def fxL (l : List Fct) (day : Int) (k : Int) : Option Rat := if (gtL l k day).2.2 = true then some (rat (gtL l k day).1 (gtL l k day).2.1) else none
/-- Facts whose fixings may be. -/
def OkL (l : List Fct) : Prop := ∀ t ∈ l, OkR t.x t.y
theorem OkL.get {l : List Fct} (h : OkL l) (k d : Int) (hg : (gtL l k d).2.2 = true) : OkR (gtL l k d).1 (gtL l k d).2.1 := by
  rcases gtL_cases l k d with ⟨t, ht, _, _, e⟩ | ⟨_, e⟩
  · rw [e]; exact h t ht
  · rw [e] at hg; cases hg
theorem gt_no {l : List Fct} {k d : Int} (hg : (gtL l k d).2.2 = false) : (gtL l k d).1 = 0 ∧ (gtL l k d).2.1 = 0 := by
  rcases gtL_cases l k d with ⟨t, ht, _, _, e⟩ | ⟨_, e⟩
  · rw [e] at hg; cases hg
  · rw [e]; exact ⟨rfl, rfl⟩
theorem fx_fits {l : List Fct} (h : OkL l) (day k : Int) (r : Rat) (hr : fxL l day k = some r) : fitsR r = true := by
  unfold fxL at hr
  by_cases hg : (gtL l k day).2.2 = true
  · rw [if_pos hg] at hr
    injection hr with hr
    rw [← hr]; exact fitsR_ok (h.get k day hg)
  · rw [if_neg hg] at hr; cases hr
theorem fx_val {l : List Fct} (h : OkL l) (day k : Int) : vB (some (fxL l day k)) = (gtL l k day).2.2 ∧ vN (some (fxL l day k)) = (gtL l k day).1 ∧ vD (some (fxL l day k)) = (gtL l k day).2.1 ∧ vE (some (fxL l day k)) = 0 := by
  unfold fxL
  cases hg : (gtL l k day).2.2 with
  | true =>
    have hk := h.get k day hg
    rw [if_pos rfl]
    exact ⟨rfl, hk.num, hk.den, rfl⟩
  | false =>
    obtain ⟨e1, e2⟩ := gt_no hg
    rw [if_neg (by decide), e1, e2]
    exact ⟨rfl, rfl, rfl, rfl⟩
theorem bel3 (w : World) (a b c : Obj) : Below w.heap.size w (((w.alloc a).alloc b).alloc c) := onF (onF (newF w _) (newF _ _)) (newF _ _)
theorem set3 {z Q : Nat} {w w1 : World} {x0 x1 x2 : Value} (hb : Below z w w1) (hQ : z ≤ Q) : Below z w (((w1.setCell ⟨Q, 0, none⟩ x0).setCell ⟨Q, 1, none⟩ x1).setCell ⟨Q, 2, none⟩ x2) := Below.setCell (Below.setCell (Below.setCell hb hQ _) hQ _) hQ _
set_option maxRecDepth 100000 in
set_option maxHeartbeats 2000000 in
theorem of_num (a b num den x y u v day : Int) (f : Value) (h : OkR num den) (w : World) :
    Calls Tryz.prog 171 #[.agg #[.int .i64 1, .int .i64 a, .int .i64 b, .int .i64 num, .int .i64 den], .agg #[.int .i64 x, .int .i64 y, .int .i64 u, .int .i64 v], .int .i64 day, f] w fun e w' => e = .returned (.tuple #[.agg #[.bool true, .int .i64 num, .int .i64 den], .int .i64 0]) ∧ Below w.heap.size w w' := by
  have HKn := Lib.hid (fun w' => known_yes num den w')
  clear h
  go_enter Tryz.func171, Tryz.ntmps171
  go_wp2_with fail
  refine (HKn.out _).mono ?_
  rintro e w2 ⟨rfl, hb2⟩
  have HS2 := Lib.hid ((onS_new w 1 a b num den x y u v 60 261 223).keep hb2)
  have HB2 := Lib.hid (onF (bel3 w _ _ _) hb2)
  clear hb2
  obtain ⟨c0, b0, b1, b2, b3, r0, r1, r2, z⟩ := HS2.out
  have z0 := z 0
  have z1 := z 1
  have z2 := z 2
  clear z
  go_wp2_with fail
  exact bodyPost_ret (v := .tuple #[.agg #[.bool true, .int .i64 num, .int .i64 den], .int .i64 0]) (by simp [results, Tryz.results171, go_sem, r0, r1, r2]) rfl ⟨rfl, set3 HB2.out (show w.heap.size ≤ w.heap.size + 1 + 1 by omega)⟩
set_option maxRecDepth 100000 in
set_option maxHeartbeats 2000000 in
theorem of_neg (a b num den u v day : Int) (p : Rat) (hp : fitsR p = true) (f : Value) (w : World) :
    Calls Tryz.prog 171 #[.agg #[.int .i64 3, .int .i64 a, .int .i64 b, .int .i64 num, .int .i64 den], .agg #[.int .i64 p.num, .int .i64 ((p.den : Nat) : Int), .int .i64 u, .int .i64 v], .int .i64 day, f] w fun e w' => e = .returned (.tuple #[.agg #[.bool true, .int .i64 (-p).num, .int .i64 (((-p).den : Nat) : Int)], .int .i64 0]) ∧ Below w.heap.size w w' := by
  have hk := okq hp
  have HNg := Lib.hid (fun w' => negr_any p.num ((p.den : Nat) : Int) w' (by have := hk.n0; omega) hk.n1 (by have := hk.d0; omega) hk.d1)
  rw [chkE_ok hk, if_pos rfl, if_pos rfl] at HNg
  rw [Rat.neg_num, Rat.neg_den]
  generalize ((p.den : Nat) : Int) = pd at *
  generalize p.num = pn at *
  have HKn := Lib.hid (fun w' => known_yes (-pn) pd w')
  clear hk hp
  go_enter Tryz.func171, Tryz.ntmps171
  go_wp2_with fail
  refine (HNg.out _).mono ?_
  rintro e w1 ⟨rfl, hb1⟩
  have HS1 := Lib.hid ((onS_new w 3 a b num den pn pd u v 60 261 223).keep hb1)
  have HB1 := Lib.hid (onF (bel3 w _ _ _) hb1)
  clear hb1
  go_wp2_with fail
  refine (HKn.out _).mono ?_
  rintro e w2 ⟨rfl, hb2⟩
  have HS2 := Lib.hid (HS1.out.keep hb2)
  have HB2 := Lib.hid (onF HB1.out hb2)
  clear hb2
  obtain ⟨c0, b0, b1, b2, b3, r0, r1, r2, z⟩ := HS2.out
  have z0 := z 0
  have z1 := z 1
  have z2 := z 2
  clear z
  go_wp2_with fail
  exact bodyPost_ret (v := .tuple #[.agg #[.bool true, .int .i64 (-pn), .int .i64 pd], .int .i64 0]) (by simp [results, Tryz.results171, go_sem, r0, r1, r2]) rfl ⟨rfl, set3 HB2.out (show w.heap.size ≤ w.heap.size + 1 + 1 by omega)⟩
set_option maxRecDepth 100000 in
set_option maxHeartbeats 2000000 in
theorem of_fix (a b num den x y u v day : Int) (w : World) {B bf bc n : Nat} {Df Dc : DataW Unit} (h : FacM w B bf bc n Df Dc) {l : List Fct} (hr : RelV vR Df l) (ha : I64 a) (hd : I64 day) :
    Calls Tryz.prog 171 #[.agg #[.int .i64 2, .int .i64 a, .int .i64 b, .int .i64 num, .int .i64 den], .agg #[.int .i64 x, .int .i64 y, .int .i64 u, .int .i64 v], .int .i64 day, .pointer (some ⟨B, 0, none⟩)] w fun e w' => e = .returned (.tuple #[.agg #[.bool (gtL l a day).2.2, .int .i64 (gtL l a day).1, .int .i64 (gtL l a day).2.1], .int .i64 0]) ∧ Below w.heap.size w w' := by
  have HFx := Lib.hid (fun (w' : World) (hb : Below w.heap.size w w') => fixing_l w' (h.keep hb) hr a day ha hd)
  generalize gtL l a day = G at *
  obtain ⟨gx, gy, gi⟩ := G
  dsimp only at *
  clear h hr ha hd
  go_enter Tryz.func171, Tryz.ntmps171
  go_wp2_with fail
  refine (HFx.out _ (bel3 w _ _ _)).mono ?_
  rintro e w2 ⟨rfl, hb2⟩
  have HS2 := Lib.hid (((onS_new w 2 a b num den x y u v 60 261 223).keep hb2).keep (newF w2 (.cells #[.int .i64 gx, .int .i64 gy] 58)))
  have HB2 := Lib.hid (onF (onF (bel3 w _ _ _) hb2) (newF w2 (.cells #[.int .i64 gx, .int .i64 gy] 58)))
  have m0 : (w2.alloc (.cells #[.int .i64 gx, .int .i64 gy] 58)).cell? ⟨w2.heap.size, 0, none⟩ = some (.int .i64 gx) := by rw [World.cell?_alloc_at _ _ _ _ rfl]; rfl
  have m1 : (w2.alloc (.cells #[.int .i64 gx, .int .i64 gy] 58)).cell? ⟨w2.heap.size, 1, none⟩ = some (.int .i64 gy) := by rw [World.cell?_alloc_at _ _ _ _ rfl]; rfl
  clear hb2 HFx
  go_upto_region 6 with fail
  generalize w2.alloc (.cells #[.int .i64 gx, .int .i64 gy] 58) = w3 at *
  obtain ⟨c0, b0, b1, b2, b3, r0, r1, r2, z⟩ := HS2.out
  have z0 := z 0
  have z1 := z 1
  have z2 := z 2
  clear z
  go_wp2_with fail
  exact bodyPost_ret (v := .tuple #[.agg #[.bool gi, .int .i64 gx, .int .i64 gy], .int .i64 0]) (by simp [results, Tryz.results171, go_sem, r0, r1, r2]) rfl ⟨rfl, set3 HB2.out (show w.heap.size ≤ w.heap.size + 1 + 1 by omega)⟩
set_option maxRecDepth 100000 in
set_option maxHeartbeats 4000000 in
theorem of_Plus (a b num den day : Int) (p q r : Rat) (hr : r = p + q) (hp : fitsR p = true) (hq : fitsR q = true) (f : Value) (w : World) :
    Calls Tryz.prog 171 #[.agg #[.int .i64 4, .int .i64 a, .int .i64 b, .int .i64 num, .int .i64 den], .agg #[.int .i64 p.num, .int .i64 ((p.den : Nat) : Int), .int .i64 q.num, .int .i64 ((q.den : Nat) : Int)], .int .i64 day, f] w fun e w' => e = .returned (.tuple #[.agg #[.bool (vB (fitQ r)), .int .i64 (vN (fitQ r)), .int .i64 (vD (fitQ r))], .int .i64 (vE (fitQ r))]) ∧ Below w.heap.size w w' := by
  have HTw := Lib.hid (fun w' => ofTwoPlus w')
  have HDo := Lib.hid (fun w' => doPlus p q hp hq w')
  rw [← hr] at HDo
  have HKn := Lib.hid (fun w' => known_fit r w')
  clear hr hp hq
  generalize vB (fitQ r) = rb at *
  generalize vN (fitQ r) = rn at *
  generalize vD (fitQ r) = rd at *
  generalize vE (fitQ r) = re at *
  generalize rN r = xn at *
  generalize rD r = xd at *
  generalize rE r = xe at *
  generalize ((p.den : Nat) : Int) = pd at *
  generalize ((q.den : Nat) : Int) = qd at *
  generalize p.num = pn at *
  generalize q.num = qn at *
  have HS0 := Lib.hid (onS_new w 4 a b num den pn pd qn qd 60 261 223)
  have HB0 := Lib.hid (bel3 w (.cells #[.int .i64 4, .int .i64 a, .int .i64 b, .int .i64 num, .int .i64 den] 60) (.cells #[.int .i64 pn, .int .i64 pd, .int .i64 qn, .int .i64 qd] 261) (.cells #[.bool false, .int .i64 0, .int .i64 0] 223))
  go_enter Tryz.func171, Tryz.ntmps171
  go_upto_region 9 with fail
  generalize (((w.alloc (.cells #[.int .i64 4, .int .i64 a, .int .i64 b, .int .i64 num, .int .i64 den] 60)).alloc (.cells #[.int .i64 pn, .int .i64 pd, .int .i64 qn, .int .i64 qd] 261)).alloc (.cells #[.bool false, .int .i64 0, .int .i64 0] 223)) = w0 at *
  have HS0d : OnS w0.drew w.heap.size (w.heap.size + 1) (w.heap.size + 1 + 1) 4 pn pd qn qd := HS0.out.keep (Below.drew (Below.refl _ _))
  have HB0d := Lib.hid (Below.drew HB0.out)
  obtain ⟨c0, b0, b1, b2, b3, r0, r1, r2, z⟩ := HS0d
  have HS0e := Lib.hid (HS0.out.keep (Below.drew (Below.refl _ _)))
  clear z r0 r1 r2
  go_region_held3 (fun w' => w'.cell? ⟨w.heap.size, 0, none⟩ = some (.int .i64 4) ∧ w'.cell? ⟨w.heap.size + 1, 0, none⟩ = some (.int .i64 pn) ∧ w'.cell? ⟨w.heap.size + 1, 1, none⟩ = some (.int .i64 pd) ∧ w'.cell? ⟨w.heap.size + 1, 2, none⟩ = some (.int .i64 qn) ∧ w'.cell? ⟨w.heap.size + 1, 3, none⟩ = some (.int .i64 qd))
    (first | (with_reducible exact ⟨c0, b0, b1, b2, b3⟩) | (with_reducible exact ⟨(three_other (by omega)).trans c0, (three_other (by omega)).trans b0, (three_other (by omega)).trans b1, (three_other (by omega)).trans b2, (three_other (by omega)).trans b3⟩))
    (first
    | (go_at_call 176; (with_reducible refine (HTw.out _).mono ?_); rintro e w1 ⟨rfl, rfl⟩; have HS1 := Lib.hid HS0e.out; have HB1 := Lib.hid HB0d.out)
    | (go_at_call 175; (with_reducible refine (HKn.out _).mono ?_); rintro e w3 ⟨rfl, hb3⟩; have HS3 := Lib.hid (HS2.out.keep hb3); have HB3 := Lib.hid (onF HB2.out hb3); clear hb3 c0 b0 b1 b2 b3; obtain ⟨c0, b0, b1, b2, b3, r0, r1, r2, z⟩ := HS3.out; have z0 := z 0; have z1 := z 1; have z2 := z 2; clear z)
    | (go_at_call 177; (with_reducible refine (HDo.out _).mono ?_); rintro e w2 ⟨rfl, hb2⟩; have HS2 := Lib.hid (HS1.out.keep hb2); have HB2 := Lib.hid (onF HB1.out hb2); clear hb2 c0 b0 b1 b2 b3; obtain ⟨c0, b0, b1, b2, b3, _, _, _, _⟩ := HS2.out))
  all_goals go_wp2_with fail
  all_goals
    exact bodyPost_ret (v := .tuple #[.agg #[.bool rb, .int .i64 rn, .int .i64 rd], .int .i64 re]) (by simp [results, Tryz.results171, go_sem, r0, r1, r2]) rfl ⟨rfl, set3 HB3.out (show w.heap.size ≤ w.heap.size + 1 + 1 by omega)⟩
set_option maxRecDepth 100000 in
set_option maxHeartbeats 4000000 in
theorem of_Minus (a b num den day : Int) (p q r : Rat) (hr : r = p - q) (hp : fitsR p = true) (hq : fitsR q = true) (f : Value) (w : World) :
    Calls Tryz.prog 171 #[.agg #[.int .i64 5, .int .i64 a, .int .i64 b, .int .i64 num, .int .i64 den], .agg #[.int .i64 p.num, .int .i64 ((p.den : Nat) : Int), .int .i64 q.num, .int .i64 ((q.den : Nat) : Int)], .int .i64 day, f] w fun e w' => e = .returned (.tuple #[.agg #[.bool (vB (fitQ r)), .int .i64 (vN (fitQ r)), .int .i64 (vD (fitQ r))], .int .i64 (vE (fitQ r))]) ∧ Below w.heap.size w w' := by
  have HTw := Lib.hid (fun w' => ofTwoMinus w')
  have HDo := Lib.hid (fun w' => doMinus p q hp hq w')
  rw [← hr] at HDo
  have HKn := Lib.hid (fun w' => known_fit r w')
  clear hr hp hq
  generalize vB (fitQ r) = rb at *
  generalize vN (fitQ r) = rn at *
  generalize vD (fitQ r) = rd at *
  generalize vE (fitQ r) = re at *
  generalize rN r = xn at *
  generalize rD r = xd at *
  generalize rE r = xe at *
  generalize ((p.den : Nat) : Int) = pd at *
  generalize ((q.den : Nat) : Int) = qd at *
  generalize p.num = pn at *
  generalize q.num = qn at *
  have HS0 := Lib.hid (onS_new w 5 a b num den pn pd qn qd 60 261 223)
  have HB0 := Lib.hid (bel3 w (.cells #[.int .i64 5, .int .i64 a, .int .i64 b, .int .i64 num, .int .i64 den] 60) (.cells #[.int .i64 pn, .int .i64 pd, .int .i64 qn, .int .i64 qd] 261) (.cells #[.bool false, .int .i64 0, .int .i64 0] 223))
  go_enter Tryz.func171, Tryz.ntmps171
  go_upto_region 9 with fail
  generalize (((w.alloc (.cells #[.int .i64 5, .int .i64 a, .int .i64 b, .int .i64 num, .int .i64 den] 60)).alloc (.cells #[.int .i64 pn, .int .i64 pd, .int .i64 qn, .int .i64 qd] 261)).alloc (.cells #[.bool false, .int .i64 0, .int .i64 0] 223)) = w0 at *
  have HS0d : OnS w0.drew w.heap.size (w.heap.size + 1) (w.heap.size + 1 + 1) 5 pn pd qn qd := HS0.out.keep (Below.drew (Below.refl _ _))
  have HB0d := Lib.hid (Below.drew HB0.out)
  obtain ⟨c0, b0, b1, b2, b3, r0, r1, r2, z⟩ := HS0d
  have HS0e := Lib.hid (HS0.out.keep (Below.drew (Below.refl _ _)))
  clear z r0 r1 r2
  go_region_held3 (fun w' => w'.cell? ⟨w.heap.size, 0, none⟩ = some (.int .i64 5) ∧ w'.cell? ⟨w.heap.size + 1, 0, none⟩ = some (.int .i64 pn) ∧ w'.cell? ⟨w.heap.size + 1, 1, none⟩ = some (.int .i64 pd) ∧ w'.cell? ⟨w.heap.size + 1, 2, none⟩ = some (.int .i64 qn) ∧ w'.cell? ⟨w.heap.size + 1, 3, none⟩ = some (.int .i64 qd))
    (first | (with_reducible exact ⟨c0, b0, b1, b2, b3⟩) | (with_reducible exact ⟨(three_other (by omega)).trans c0, (three_other (by omega)).trans b0, (three_other (by omega)).trans b1, (three_other (by omega)).trans b2, (three_other (by omega)).trans b3⟩))
    (first
    | (go_at_call 176; (with_reducible refine (HTw.out _).mono ?_); rintro e w1 ⟨rfl, rfl⟩; have HS1 := Lib.hid HS0e.out; have HB1 := Lib.hid HB0d.out)
    | (go_at_call 175; (with_reducible refine (HKn.out _).mono ?_); rintro e w3 ⟨rfl, hb3⟩; have HS3 := Lib.hid (HS2.out.keep hb3); have HB3 := Lib.hid (onF HB2.out hb3); clear hb3 c0 b0 b1 b2 b3; obtain ⟨c0, b0, b1, b2, b3, r0, r1, r2, z⟩ := HS3.out; have z0 := z 0; have z1 := z 1; have z2 := z 2; clear z)
    | (go_at_call 178; (with_reducible refine (HDo.out _).mono ?_); rintro e w2 ⟨rfl, hb2⟩; have HS2 := Lib.hid (HS1.out.keep hb2); have HB2 := Lib.hid (onF HB1.out hb2); clear hb2 c0 b0 b1 b2 b3; obtain ⟨c0, b0, b1, b2, b3, _, _, _, _⟩ := HS2.out))
  all_goals go_wp2_with fail
  all_goals
    exact bodyPost_ret (v := .tuple #[.agg #[.bool rb, .int .i64 rn, .int .i64 rd], .int .i64 re]) (by simp [results, Tryz.results171, go_sem, r0, r1, r2]) rfl ⟨rfl, set3 HB3.out (show w.heap.size ≤ w.heap.size + 1 + 1 by omega)⟩
set_option maxRecDepth 100000 in
set_option maxHeartbeats 4000000 in
theorem of_Times (a b num den day : Int) (p q r : Rat) (hr : r = p * q) (hp : fitsR p = true) (hq : fitsR q = true) (f : Value) (w : World) :
    Calls Tryz.prog 171 #[.agg #[.int .i64 6, .int .i64 a, .int .i64 b, .int .i64 num, .int .i64 den], .agg #[.int .i64 p.num, .int .i64 ((p.den : Nat) : Int), .int .i64 q.num, .int .i64 ((q.den : Nat) : Int)], .int .i64 day, f] w fun e w' => e = .returned (.tuple #[.agg #[.bool (vB (fitQ r)), .int .i64 (vN (fitQ r)), .int .i64 (vD (fitQ r))], .int .i64 (vE (fitQ r))]) ∧ Below w.heap.size w w' := by
  have HTw := Lib.hid (fun w' => ofTwoTimes w')
  have HDo := Lib.hid (fun w' => doTimes p q hp hq w')
  rw [← hr] at HDo
  have HKn := Lib.hid (fun w' => known_fit r w')
  clear hr hp hq
  generalize vB (fitQ r) = rb at *
  generalize vN (fitQ r) = rn at *
  generalize vD (fitQ r) = rd at *
  generalize vE (fitQ r) = re at *
  generalize rN r = xn at *
  generalize rD r = xd at *
  generalize rE r = xe at *
  generalize ((p.den : Nat) : Int) = pd at *
  generalize ((q.den : Nat) : Int) = qd at *
  generalize p.num = pn at *
  generalize q.num = qn at *
  have HS0 := Lib.hid (onS_new w 6 a b num den pn pd qn qd 60 261 223)
  have HB0 := Lib.hid (bel3 w (.cells #[.int .i64 6, .int .i64 a, .int .i64 b, .int .i64 num, .int .i64 den] 60) (.cells #[.int .i64 pn, .int .i64 pd, .int .i64 qn, .int .i64 qd] 261) (.cells #[.bool false, .int .i64 0, .int .i64 0] 223))
  go_enter Tryz.func171, Tryz.ntmps171
  go_upto_region 9 with fail
  generalize (((w.alloc (.cells #[.int .i64 6, .int .i64 a, .int .i64 b, .int .i64 num, .int .i64 den] 60)).alloc (.cells #[.int .i64 pn, .int .i64 pd, .int .i64 qn, .int .i64 qd] 261)).alloc (.cells #[.bool false, .int .i64 0, .int .i64 0] 223)) = w0 at *
  have HS0d : OnS w0.drew w.heap.size (w.heap.size + 1) (w.heap.size + 1 + 1) 6 pn pd qn qd := HS0.out.keep (Below.drew (Below.refl _ _))
  have HB0d := Lib.hid (Below.drew HB0.out)
  obtain ⟨c0, b0, b1, b2, b3, r0, r1, r2, z⟩ := HS0d
  have HS0e := Lib.hid (HS0.out.keep (Below.drew (Below.refl _ _)))
  clear z r0 r1 r2
  go_region_held3 (fun w' => w'.cell? ⟨w.heap.size, 0, none⟩ = some (.int .i64 6) ∧ w'.cell? ⟨w.heap.size + 1, 0, none⟩ = some (.int .i64 pn) ∧ w'.cell? ⟨w.heap.size + 1, 1, none⟩ = some (.int .i64 pd) ∧ w'.cell? ⟨w.heap.size + 1, 2, none⟩ = some (.int .i64 qn) ∧ w'.cell? ⟨w.heap.size + 1, 3, none⟩ = some (.int .i64 qd))
    (first | (with_reducible exact ⟨c0, b0, b1, b2, b3⟩) | (with_reducible exact ⟨(three_other (by omega)).trans c0, (three_other (by omega)).trans b0, (three_other (by omega)).trans b1, (three_other (by omega)).trans b2, (three_other (by omega)).trans b3⟩))
    (first
    | (go_at_call 176; (with_reducible refine (HTw.out _).mono ?_); rintro e w1 ⟨rfl, rfl⟩; have HS1 := Lib.hid HS0e.out; have HB1 := Lib.hid HB0d.out)
    | (go_at_call 175; (with_reducible refine (HKn.out _).mono ?_); rintro e w3 ⟨rfl, hb3⟩; have HS3 := Lib.hid (HS2.out.keep hb3); have HB3 := Lib.hid (onF HB2.out hb3); clear hb3 c0 b0 b1 b2 b3; obtain ⟨c0, b0, b1, b2, b3, r0, r1, r2, z⟩ := HS3.out; have z0 := z 0; have z1 := z 1; have z2 := z 2; clear z)
    | (go_at_call 120; (with_reducible refine (HDo.out _).mono ?_); rintro e w2 ⟨rfl, hb2⟩; have HS2 := Lib.hid (HS1.out.keep hb2); have HB2 := Lib.hid (onF HB1.out hb2); clear hb2 c0 b0 b1 b2 b3; obtain ⟨c0, b0, b1, b2, b3, _, _, _, _⟩ := HS2.out))
  all_goals go_wp2_with fail
  all_goals
    exact bodyPost_ret (v := .tuple #[.agg #[.bool rb, .int .i64 rn, .int .i64 rd], .int .i64 re]) (by simp [results, Tryz.results171, go_sem, r0, r1, r2]) rfl ⟨rfl, set3 HB3.out (show w.heap.size ≤ w.heap.size + 1 + 1 by omega)⟩
set_option maxRecDepth 100000 in
set_option maxHeartbeats 4000000 in
theorem of_Least (a b num den day : Int) (p q r : Rat) (hr : r = pickQ (-1) p q) (hp : fitsR p = true) (hq : fitsR q = true) (f : Value) (w : World) :
    Calls Tryz.prog 171 #[.agg #[.int .i64 7, .int .i64 a, .int .i64 b, .int .i64 num, .int .i64 den], .agg #[.int .i64 p.num, .int .i64 ((p.den : Nat) : Int), .int .i64 q.num, .int .i64 ((q.den : Nat) : Int)], .int .i64 day, f] w fun e w' => e = .returned (.tuple #[.agg #[.bool true, .int .i64 r.num, .int .i64 ((r.den : Nat) : Int)], .int .i64 0]) ∧ Below w.heap.size w w' := by
  have HTw := Lib.hid (fun w' => ofTwoLeast w')
  have HDo := Lib.hid (fun (w' : World) (P : Nat) (hc : w'.cell? ⟨P, 0, none⟩ = some (.int .i64 (-1))) => ordered1_any (-1) P p q hp hq w' hc)
  rw [← hr] at HDo
  have HKn := Lib.hid (fun w' => known_yes r.num ((r.den : Nat) : Int) w')
  clear hr hp hq
  generalize ((r.den : Nat) : Int) = rd at *
  generalize r.num = rn at *
  generalize ((p.den : Nat) : Int) = pd at *
  generalize ((q.den : Nat) : Int) = qd at *
  generalize p.num = pn at *
  generalize q.num = qn at *
  have HS0 := Lib.hid (onS_new w 7 a b num den pn pd qn qd 60 261 223)
  have HB0 := Lib.hid (bel3 w (.cells #[.int .i64 7, .int .i64 a, .int .i64 b, .int .i64 num, .int .i64 den] 60) (.cells #[.int .i64 pn, .int .i64 pd, .int .i64 qn, .int .i64 qd] 261) (.cells #[.bool false, .int .i64 0, .int .i64 0] 223))
  go_enter Tryz.func171, Tryz.ntmps171
  go_upto_region 9 with fail
  generalize (((w.alloc (.cells #[.int .i64 7, .int .i64 a, .int .i64 b, .int .i64 num, .int .i64 den] 60)).alloc (.cells #[.int .i64 pn, .int .i64 pd, .int .i64 qn, .int .i64 qd] 261)).alloc (.cells #[.bool false, .int .i64 0, .int .i64 0] 223)) = w0 at *
  have HS0d : OnS w0.drew w.heap.size (w.heap.size + 1) (w.heap.size + 1 + 1) 7 pn pd qn qd := HS0.out.keep (Below.drew (Below.refl _ _))
  have HB0d := Lib.hid (Below.drew HB0.out)
  obtain ⟨c0, b0, b1, b2, b3, r0, r1, r2, z⟩ := HS0d
  have HS0e := Lib.hid (HS0.out.keep (Below.drew (Below.refl _ _)))
  clear z r0 r1 r2
  go_region_held3 (fun w' => w'.cell? ⟨w.heap.size, 0, none⟩ = some (.int .i64 7) ∧ w'.cell? ⟨w.heap.size + 1, 0, none⟩ = some (.int .i64 pn) ∧ w'.cell? ⟨w.heap.size + 1, 1, none⟩ = some (.int .i64 pd) ∧ w'.cell? ⟨w.heap.size + 1, 2, none⟩ = some (.int .i64 qn) ∧ w'.cell? ⟨w.heap.size + 1, 3, none⟩ = some (.int .i64 qd))
    (first | (with_reducible exact ⟨c0, b0, b1, b2, b3⟩) | (with_reducible exact ⟨(three_other (by omega)).trans c0, (three_other (by omega)).trans b0, (three_other (by omega)).trans b1, (three_other (by omega)).trans b2, (three_other (by omega)).trans b3⟩))
    (first
    | (go_at_call 176; (with_reducible refine (HTw.out _).mono ?_); rintro e w1 ⟨P, rfl, hP, hb1⟩; have HS1 := Lib.hid (HS0e.out.keep hb1); have HB1 := Lib.hid (onF HB0d.out hb1); have HP1 := Lib.hid hP; clear hb1 hP c0 b0 b1 b2 b3; obtain ⟨c0, b0, b1, b2, b3, _, _, _, _⟩ := HS1.out)
    | (go_at_call 175; (with_reducible refine (HKn.out _).mono ?_); rintro e w3 ⟨rfl, hb3⟩; have HS3 := Lib.hid (HS2.out.keep hb3); have HB3 := Lib.hid (onF HB2.out hb3); clear hb3 c0 b0 b1 b2 b3; obtain ⟨c0, b0, b1, b2, b3, r0, r1, r2, z⟩ := HS3.out; have z0 := z 0; have z1 := z 1; have z2 := z 2; clear z)
    | (go_at_call 183; (with_reducible refine (HDo.out _ _ HP1.out).mono ?_); rintro e w2 ⟨rfl, hb2⟩; have HS2 := Lib.hid (HS1.out.keep hb2); have HB2 := Lib.hid (onF HB1.out hb2); clear hb2 c0 b0 b1 b2 b3; obtain ⟨c0, b0, b1, b2, b3, _, _, _, _⟩ := HS2.out))
  all_goals go_wp2_with fail
  all_goals
    exact bodyPost_ret (v := .tuple #[.agg #[.bool true, .int .i64 rn, .int .i64 rd], .int .i64 0]) (by simp [results, Tryz.results171, go_sem, r0, r1, r2]) rfl ⟨rfl, set3 HB3.out (show w.heap.size ≤ w.heap.size + 1 + 1 by omega)⟩
set_option maxRecDepth 100000 in
set_option maxHeartbeats 4000000 in
theorem of_Most (a b num den day : Int) (p q r : Rat) (hr : r = pickQ 1 p q) (hp : fitsR p = true) (hq : fitsR q = true) (f : Value) (w : World) :
    Calls Tryz.prog 171 #[.agg #[.int .i64 8, .int .i64 a, .int .i64 b, .int .i64 num, .int .i64 den], .agg #[.int .i64 p.num, .int .i64 ((p.den : Nat) : Int), .int .i64 q.num, .int .i64 ((q.den : Nat) : Int)], .int .i64 day, f] w fun e w' => e = .returned (.tuple #[.agg #[.bool true, .int .i64 r.num, .int .i64 ((r.den : Nat) : Int)], .int .i64 0]) ∧ Below w.heap.size w w' := by
  have HTw := Lib.hid (fun w' => ofTwoMost w')
  have HDo := Lib.hid (fun (w' : World) (P : Nat) (hc : w'.cell? ⟨P, 0, none⟩ = some (.int .i64 1)) => ordered1_any 1 P p q hp hq w' hc)
  rw [← hr] at HDo
  have HKn := Lib.hid (fun w' => known_yes r.num ((r.den : Nat) : Int) w')
  clear hr hp hq
  generalize ((r.den : Nat) : Int) = rd at *
  generalize r.num = rn at *
  generalize ((p.den : Nat) : Int) = pd at *
  generalize ((q.den : Nat) : Int) = qd at *
  generalize p.num = pn at *
  generalize q.num = qn at *
  have HS0 := Lib.hid (onS_new w 8 a b num den pn pd qn qd 60 261 223)
  have HB0 := Lib.hid (bel3 w (.cells #[.int .i64 8, .int .i64 a, .int .i64 b, .int .i64 num, .int .i64 den] 60) (.cells #[.int .i64 pn, .int .i64 pd, .int .i64 qn, .int .i64 qd] 261) (.cells #[.bool false, .int .i64 0, .int .i64 0] 223))
  go_enter Tryz.func171, Tryz.ntmps171
  go_upto_region 9 with fail
  generalize (((w.alloc (.cells #[.int .i64 8, .int .i64 a, .int .i64 b, .int .i64 num, .int .i64 den] 60)).alloc (.cells #[.int .i64 pn, .int .i64 pd, .int .i64 qn, .int .i64 qd] 261)).alloc (.cells #[.bool false, .int .i64 0, .int .i64 0] 223)) = w0 at *
  have HS0d : OnS w0.drew w.heap.size (w.heap.size + 1) (w.heap.size + 1 + 1) 8 pn pd qn qd := HS0.out.keep (Below.drew (Below.refl _ _))
  have HB0d := Lib.hid (Below.drew HB0.out)
  obtain ⟨c0, b0, b1, b2, b3, r0, r1, r2, z⟩ := HS0d
  have HS0e := Lib.hid (HS0.out.keep (Below.drew (Below.refl _ _)))
  clear z r0 r1 r2
  go_region_held3 (fun w' => w'.cell? ⟨w.heap.size, 0, none⟩ = some (.int .i64 8) ∧ w'.cell? ⟨w.heap.size + 1, 0, none⟩ = some (.int .i64 pn) ∧ w'.cell? ⟨w.heap.size + 1, 1, none⟩ = some (.int .i64 pd) ∧ w'.cell? ⟨w.heap.size + 1, 2, none⟩ = some (.int .i64 qn) ∧ w'.cell? ⟨w.heap.size + 1, 3, none⟩ = some (.int .i64 qd))
    (first | (with_reducible exact ⟨c0, b0, b1, b2, b3⟩) | (with_reducible exact ⟨(three_other (by omega)).trans c0, (three_other (by omega)).trans b0, (three_other (by omega)).trans b1, (three_other (by omega)).trans b2, (three_other (by omega)).trans b3⟩))
    (first
    | (go_at_call 176; (with_reducible refine (HTw.out _).mono ?_); rintro e w1 ⟨P, rfl, hP, hb1⟩; have HS1 := Lib.hid (HS0e.out.keep hb1); have HB1 := Lib.hid (onF HB0d.out hb1); have HP1 := Lib.hid hP; clear hb1 hP c0 b0 b1 b2 b3; obtain ⟨c0, b0, b1, b2, b3, _, _, _, _⟩ := HS1.out)
    | (go_at_call 175; (with_reducible refine (HKn.out _).mono ?_); rintro e w3 ⟨rfl, hb3⟩; have HS3 := Lib.hid (HS2.out.keep hb3); have HB3 := Lib.hid (onF HB2.out hb3); clear hb3 c0 b0 b1 b2 b3; obtain ⟨c0, b0, b1, b2, b3, r0, r1, r2, z⟩ := HS3.out; have z0 := z 0; have z1 := z 1; have z2 := z 2; clear z)
    | (go_at_call 183; (with_reducible refine (HDo.out _ _ HP1.out).mono ?_); rintro e w2 ⟨rfl, hb2⟩; have HS2 := Lib.hid (HS1.out.keep hb2); have HB2 := Lib.hid (onF HB1.out hb2); clear hb2 c0 b0 b1 b2 b3; obtain ⟨c0, b0, b1, b2, b3, _, _, _, _⟩ := HS2.out))
  all_goals go_wp2_with fail
  all_goals
    exact bodyPost_ret (v := .tuple #[.agg #[.bool true, .int .i64 rn, .int .i64 rd], .int .i64 0]) (by simp [results, Tryz.results171, go_sem, r0, r1, r2]) rfl ⟨rfl, set3 HB3.out (show w.heap.size ≤ w.heap.size + 1 + 1 by omega)⟩

end Go.Proofs.YtgeneoamngfomaaGreatDoor

/-
  Package value: known, ordered, ofTwo, ofNode: what they answer.
-/
import Derived.Test.YtgeneoamngfomaaGreatDoorVlA
import Derived.Test.YtgeneoamngfomaaGreatDoorFdE
import Derived.Test.YtgeneoamngfomaaGreatDoorRtC
import Derived.Test.YtgeneoamngfomaaGreatDoorRtJ
import Derived.Test.YtgeneoamngfomaaGreatDoorRtL
import Derived.Deep.RegionHeld3
namespace Go.Proofs.YtgeneoamngfomaaGreatDoor
open Go.RowKit Go.Lib Go.Maps
set_option linter.unusedVariables false
set_option linter.unusedSimpArgs false

/-- A number's value, in cells: is it known; its two parts; the error. -/
def vB : Option (Option Rat) → Bool
  | some (some _) => true
  | _ => false
def vN : Option (Option Rat) → Int
  | some (some q) => q.num
  | _ => 0
def vD : Option (Option Rat) → Int
  | some (some q) => ((q.den : Nat) : Int)
  | _ => 0
def vE : Option (Option Rat) → Int
  | none => 11
  | _ => 0
theorem okq {q : Rat} (h : fitsR q = true) : OkR q.num ((q.den : Nat) : Int) := okR_of h
theorem both_q {p q : Rat} (hp : fitsR p = true) (hq : fitsR q = true) : bothE p.num ((p.den : Nat) : Int) q.num ((q.den : Nat) : Int) = 0 := by
  unfold bothE firstE
  rw [chkE_ok (okq hp), if_pos rfl, chkE_ok (okq hq)]
theorem cmp_q (p q : Rat) : cmpS p.num ((p.den : Nat) : Int) q.num ((q.den : Nat) : Int) = if p < q then -1 else if q < p then 1 else 0 := by
  unfold cmpS
  by_cases h1 : p < q
  · rw [if_pos h1, Int.sign_eq_neg_one_iff_neg]
    have := (Rat.lt_iff _ _).1 h1
    omega
  · rw [if_neg h1]
    by_cases h2 : q < p
    · rw [if_pos h2, Int.sign_eq_one_iff_pos]
      have := (Rat.lt_iff _ _).1 h2
      omega
    · rw [if_neg h2, Int.sign_eq_zero_iff_zero]
      rw [Rat.lt_iff] at h1 h2
      omega
set_option maxRecDepth 100000 in
theorem known_yes (x y : Int) (w : World) : Calls Tryz.prog 175 #[.agg #[.int .i64 x, .int .i64 y], .int .i64 0] w fun e w' => e = .returned (.tuple #[.agg #[.bool true, .int .i64 x, .int .i64 y], .int .i64 0]) ∧ Below w.heap.size w w' := by
  go_enter Tryz.func175, Tryz.ntmps175
  go_wp2_with fail
  refine bodyPost_ret (v := .tuple #[.agg #[.bool true, .int .i64 x, .int .i64 y], .int .i64 0]) (by simp [results, Tryz.results175, go_sem]) rfl ⟨rfl, ?_⟩
  exact onF (newF _ _) (newF _ _)
set_option maxRecDepth 100000 in
theorem known_no (x y c : Int) (hc : c ≠ 0) (w : World) : Calls Tryz.prog 175 #[.agg #[.int .i64 x, .int .i64 y], .int .i64 c] w fun e w' => e = .returned (.tuple #[.agg #[.bool false, .int .i64 0, .int .i64 0], .int .i64 c]) ∧ Below w.heap.size w w' := by
  have hc1 : (c == 0) = false := beq_false_of_ne hc
  have hc2 : (c != 0) = true := bne_iff_ne.2 hc
  go_enter Tryz.func175, Tryz.ntmps175
  go_wp2_with fail
  refine bodyPost_ret (v := .tuple #[.agg #[.bool false, .int .i64 0, .int .i64 0], .int .i64 c]) (by simp [results, Tryz.results175, go_sem]) rfl ⟨rfl, ?_⟩
  exact onF (newF _ _) (newF _ _)
/-- What is known of a number that may not fit. -/
theorem known_fit (q : Rat) (w : World) : Calls Tryz.prog 175 #[.agg #[.int .i64 (rN q), .int .i64 (rD q)], .int .i64 (rE q)] w fun e w' => e = .returned (.tuple #[.agg #[.bool (vB (fitQ q)), .int .i64 (vN (fitQ q)), .int .i64 (vD (fitQ q))], .int .i64 (vE (fitQ q))]) ∧ Below w.heap.size w w' := by
  unfold fitQ
  cases h : fitsR q with
  | true => obtain ⟨a, b, c⟩ := fit_in h; rw [a, b, c]; exact known_yes _ _ w
  | false => obtain ⟨a, b, c⟩ := fit_out h; rw [a, b, c]; exact known_no _ _ _ (by decide) w

/-- One of two, by their order. -/
def pickQ (o : Int) (p q : Rat) : Rat := if (if p < q then (-1 : Int) else if q < p then 1 else 0) = o then p else q
theorem pick_least (p q : Rat) : pickQ (-1) p q = if p < q then p else q := by
  unfold pickQ
  by_cases h1 : p < q
  · rw [if_pos h1, if_pos rfl, if_pos h1]
  · rw [if_neg h1, if_neg h1]
    by_cases h2 : q < p
    · rw [if_pos h2, if_neg (by decide)]
    · rw [if_neg h2, if_neg (by decide)]
theorem pick_most (p q : Rat) : pickQ 1 p q = if q < p then p else q := by
  unfold pickQ
  by_cases h1 : p < q
  · rw [if_pos h1, if_neg (by decide), if_neg (fun h => by have a := (Rat.lt_iff _ _).1 h1; have b := (Rat.lt_iff _ _).1 h; omega)]
  · rw [if_neg h1]
    by_cases h2 : q < p
    · rw [if_pos h2, if_pos rfl, if_pos h2]
    · rw [if_neg h2, if_neg (by decide), if_neg h2]
/-- What ordered's closure holds. -/
structure OrS (W : World) (A B R P : Nat) (o pn pd qn qd : Int) : Prop where
  a0 : W.cell? ⟨A, 0, none⟩ = some (.int .i64 pn)
  a1 : W.cell? ⟨A, 1, none⟩ = some (.int .i64 pd)
  b0 : W.cell? ⟨B, 0, none⟩ = some (.int .i64 qn)
  b1 : W.cell? ⟨B, 1, none⟩ = some (.int .i64 qd)
  r0 : W.cell? ⟨R, 0, none⟩ = some (.int .i64 0)
  r1 : W.cell? ⟨R, 1, none⟩ = some (.int .i64 0)
  z : ∀ i, W.frozen? ⟨R, i, none⟩ = false
  p0 : W.cell? ⟨P, 0, none⟩ = some (.int .i64 o)
theorem OrS.keep {W W' : World} {A B R P : Nat} {o pn pd qn qd : Int} (h : OrS W A B R P o pn pd qn qd) (hb : Below W.heap.size W W') : OrS W' A B R P o pn pd qn qd :=
  ⟨keepF hb h.a0, keepF hb h.a1, keepF hb h.b0, keepF hb h.b1, keepF hb h.r0, keepF hb h.r1, fun i => (hb.frozen (p := ⟨R, i, none⟩) (ltF h.r0)).trans (h.z i), keepF hb h.p0⟩
theorem orS_new (w : World) (P : Nat) (o pn pd qn qd : Int) (hP : w.cell? ⟨P, 0, none⟩ = some (.int .i64 o)) (t : TypeId) : OrS (((w.alloc (.cells #[.int .i64 pn, .int .i64 pd] t)).alloc (.cells #[.int .i64 qn, .int .i64 qd] t)).alloc (.cells #[.int .i64 0, .int .i64 0] t)) w.heap.size (w.heap.size + 1) (w.heap.size + 1 + 1) P o pn pd qn qd := by
  have n1 := fun o => newF (w.alloc (.cells #[.int .i64 pn, .int .i64 pd] t)) o
  have n2 := fun o => newF ((w.alloc (.cells #[.int .i64 pn, .int .i64 pd] t)).alloc (.cells #[.int .i64 qn, .int .i64 qd] t)) o
  refine ⟨keepF (n2 _) (keepF (n1 _) ?_), keepF (n2 _) (keepF (n1 _) ?_), keepF (n2 _) ?_, keepF (n2 _) ?_, ?_, ?_, fun i => ?_, keepF (n2 _) (keepF (n1 _) (keepF (newF w _) hP))⟩
  · rw [World.cell?_alloc_at _ _ _ _ rfl]; rfl
  · rw [World.cell?_alloc_at _ _ _ _ rfl]; rfl
  · rw [World.cell?_alloc_at _ _ _ _ (by simp)]; rfl
  · rw [World.cell?_alloc_at _ _ _ _ (by simp)]; rfl
  · rw [World.cell?_alloc_at _ _ _ _ (by simp)]; rfl
  · rw [World.cell?_alloc_at _ _ _ _ (by simp)]; rfl
  · exact World.frozen?_alloc_at _ _ _ _ (by simp)
set_option maxRecDepth 100000 in
set_option maxHeartbeats 2000000 in
theorem ordered1_any (o : Int) (P : Nat) (p q : Rat) (hp : fitsR p = true) (hq : fitsR q = true) (w : World) (hc : w.cell? ⟨P, 0, none⟩ = some (.int .i64 o)) :
    Calls Tryz.prog 183 #[.agg #[.int .i64 p.num, .int .i64 ((p.den : Nat) : Int)], .agg #[.int .i64 q.num, .int .i64 ((q.den : Nat) : Int)], .pointer (some ⟨P, 0, none⟩)] w fun e w' => e = .returned (.tuple #[.agg #[.int .i64 (pickQ o p q).num, .int .i64 (((pickQ o p q).den : Nat) : Int)], .int .i64 0]) ∧ Below w.heap.size w w' := by
  have ha := okq hp
  have hb := okq hq
  have HCm := Lib.hid (fun w' => compare_anyR p.num ((p.den : Nat) : Int) q.num ((q.den : Nat) : Int) w' (by have := ha.n0; omega) ha.n1 (by have := ha.d0; omega) ha.d1 (by have := hb.n0; omega) hb.n1 (by have := hb.d0; omega) hb.d1)
  rw [both_q hp hq, if_pos rfl, cmp_q] at HCm
  have HPk : Hid (pickQ o p q = if (if p < q then (-1 : Int) else if q < p then 1 else 0) = o then p else q) := Lib.hid rfl
  generalize pickQ o p q = r at *
  have HPn : Hid ((r = p → r.num = p.num ∧ ((r.den : Nat) : Int) = ((p.den : Nat) : Int)) ∧ (r = q → r.num = q.num ∧ ((r.den : Nat) : Int) = ((q.den : Nat) : Int))) := Lib.hid ⟨fun h => by rw [h]; exact ⟨rfl, rfl⟩, fun h => by rw [h]; exact ⟨rfl, rfl⟩⟩
  generalize (if p < q then (-1 : Int) else if q < p then 1 else 0) = c at *
  have HK := Lib.hid hc
  clear ha hb hp hq hc
  generalize ((p.den : Nat) : Int) = pd at *
  generalize ((q.den : Nat) : Int) = qd at *
  generalize p.num = pn at *
  generalize q.num = qn at *
  by_cases hco : c = o
  · subst hco
    rw [if_pos rfl] at HPk
    obtain ⟨e1, e2⟩ : (r.num = pn ∧ ((r.den : Nat) : Int) = pd) := HPn.out.1 HPk.out
    rw [e1, e2]
    clear e1 e2 HPk HPn
    have hcc : (c == c) = true := beq_self_eq_true c
    go_enter Tryz.func183, Tryz.ntmps183
    go_wp2_with fail
    refine (HCm.out _).mono ?_
    rintro e w1 ⟨rfl, hb1⟩
    have HS := Lib.hid ((orS_new w P c pn pd qn qd HK.out 58).keep hb1)
    have HB := Lib.hid (onF (onF (onF (newF w _) (newF _ _)) (newF _ _)) hb1)
    clear hb1 HCm HK
    obtain ⟨a0, a1, b0, b1, r0, r1, z, p0⟩ := HS.out
    have z0 := z 0
    have z1 := z 1
    clear z
    go_wp2_with fail
    exact bodyPost_ret (v := .tuple #[.agg #[.int .i64 pn, .int .i64 pd], .int .i64 0]) (by simp [results, Tryz.results183, go_sem, r0, r1]) rfl ⟨rfl, Below.setCell (Below.setCell HB.out (show w.heap.size ≤ w.heap.size + 1 + 1 by omega) _) (show w.heap.size ≤ w.heap.size + 1 + 1 by omega) _⟩
  · rw [if_neg hco] at HPk
    obtain ⟨e1, e2⟩ : (r.num = qn ∧ ((r.den : Nat) : Int) = qd) := HPn.out.2 HPk.out
    rw [e1, e2]
    clear e1 e2 HPk HPn
    have hcc : (c == o) = false := beq_false_of_ne hco
    go_enter Tryz.func183, Tryz.ntmps183
    go_wp2_with fail
    refine (HCm.out _).mono ?_
    rintro e w1 ⟨rfl, hb1⟩
    have HS := Lib.hid ((orS_new w P o pn pd qn qd HK.out 58).keep hb1)
    have HB := Lib.hid (onF (onF (onF (newF w _) (newF _ _)) (newF _ _)) hb1)
    clear hb1 HCm HK
    obtain ⟨a0, a1, b0, b1, r0, r1, z, p0⟩ := HS.out
    have z0 := z 0
    have z1 := z 1
    clear z
    go_wp2_with fail
    exact bodyPost_ret (v := .tuple #[.agg #[.int .i64 qn, .int .i64 qd], .int .i64 0]) (by simp [results, Tryz.results183, go_sem, r0, r1]) rfl ⟨rfl, Below.setCell (Below.setCell HB.out (show w.heap.size ≤ w.heap.size + 1 + 1 by omega) _) (show w.heap.size ≤ w.heap.size + 1 + 1 by omega) _⟩

/-- What ofNode's blocks hold. -/
structure OnS (W : World) (A B R : Nat) (op a1 d1 a2 d2 : Int) : Prop where
  c0 : W.cell? ⟨A, 0, none⟩ = some (.int .i64 op)
  b0 : W.cell? ⟨B, 0, none⟩ = some (.int .i64 a1)
  b1 : W.cell? ⟨B, 1, none⟩ = some (.int .i64 d1)
  b2 : W.cell? ⟨B, 2, none⟩ = some (.int .i64 a2)
  b3 : W.cell? ⟨B, 3, none⟩ = some (.int .i64 d2)
  r0 : W.cell? ⟨R, 0, none⟩ = some (.bool false)
  r1 : W.cell? ⟨R, 1, none⟩ = some (.int .i64 0)
  r2 : W.cell? ⟨R, 2, none⟩ = some (.int .i64 0)
  z : ∀ i, W.frozen? ⟨R, i, none⟩ = false
theorem OnS.keep {W W' : World} {A B R : Nat} {op a1 d1 a2 d2 : Int} (h : OnS W A B R op a1 d1 a2 d2) (hb : Below W.heap.size W W') : OnS W' A B R op a1 d1 a2 d2 :=
  ⟨keepF hb h.c0, keepF hb h.b0, keepF hb h.b1, keepF hb h.b2, keepF hb h.b3, keepF hb h.r0, keepF hb h.r1, keepF hb h.r2, fun i => (hb.frozen (p := ⟨R, i, none⟩) (ltF h.r0)).trans (h.z i)⟩
theorem onS_new (w : World) (op a b num den a1 d1 a2 d2 : Int) (t1 t2 t3 : TypeId) : OnS (((w.alloc (.cells #[.int .i64 op, .int .i64 a, .int .i64 b, .int .i64 num, .int .i64 den] t1)).alloc (.cells #[.int .i64 a1, .int .i64 d1, .int .i64 a2, .int .i64 d2] t2)).alloc (.cells #[.bool false, .int .i64 0, .int .i64 0] t3)) w.heap.size (w.heap.size + 1) (w.heap.size + 1 + 1) op a1 d1 a2 d2 := by
  have n1 := fun o => newF (w.alloc (.cells #[.int .i64 op, .int .i64 a, .int .i64 b, .int .i64 num, .int .i64 den] t1)) o
  have n2 := fun o => newF ((w.alloc (.cells #[.int .i64 op, .int .i64 a, .int .i64 b, .int .i64 num, .int .i64 den] t1)).alloc (.cells #[.int .i64 a1, .int .i64 d1, .int .i64 a2, .int .i64 d2] t2)) o
  refine ⟨keepF (n2 _) (keepF (n1 _) ?_), keepF (n2 _) ?_, keepF (n2 _) ?_, keepF (n2 _) ?_, keepF (n2 _) ?_, ?_, ?_, ?_, fun i => ?_⟩
  · rw [World.cell?_alloc_at _ _ _ _ rfl]; rfl
  · rw [World.cell?_alloc_at _ _ _ _ (by simp)]; rfl
  · rw [World.cell?_alloc_at _ _ _ _ (by simp)]; rfl
  · rw [World.cell?_alloc_at _ _ _ _ (by simp)]; rfl
  · rw [World.cell?_alloc_at _ _ _ _ (by simp)]; rfl
  · rw [World.cell?_alloc_at _ _ _ _ (by simp)]; rfl
  · rw [World.cell?_alloc_at _ _ _ _ (by simp)]; rfl
  · rw [World.cell?_alloc_at _ _ _ _ (by simp)]; rfl
  · exact World.frozen?_alloc_at _ _ _ _ (by simp)
theorem three_other {w : World} {Q b i : Nat} {x0 x1 x2 : Value} (h : b ≠ Q) : (((w.setCell ⟨Q, 0, none⟩ x0).setCell ⟨Q, 1, none⟩ x1).setCell ⟨Q, 2, none⟩ x2).cell? ⟨b, i, none⟩ = w.cell? ⟨b, i, none⟩ := by
  rw [cell_other (fun e => h (by injection e with e _ _; exact e.symm)), cell_other (fun e => h (by injection e with e _ _; exact e.symm)), cell_other (fun e => h (by injection e with e _ _; exact e.symm))]
theorem ofTwoPlus (w : World) : Calls Tryz.prog 176 #[.int .i64 4] w fun e w' => e = .returned (.func (.func 177) #[] #[]) ∧ w = w' := by
  go_enter Tryz.func176, Tryz.ntmps176
  go_wp2_with fail
  go_ret
  exact ⟨rfl, rfl⟩
theorem doPlus (p q : Rat) (hp : fitsR p = true) (hq : fitsR q = true) (w : World) : Calls Tryz.prog 177 #[.agg #[.int .i64 p.num, .int .i64 ((p.den : Nat) : Int)], .agg #[.int .i64 q.num, .int .i64 ((q.den : Nat) : Int)]] w fun e w' => e = .returned (.tuple #[.agg #[.int .i64 (rN (p + q)), .int .i64 (rD (p + q))], .int .i64 (rE (p + q))]) ∧ Below w.heap.size w w' := by
  have ha := okq hp
  have hb := okq hq
  have h := addr_any p.num ((p.den : Nat) : Int) q.num ((q.den : Nat) : Int) w (by have := ha.n0; omega) ha.n1 (by have := ha.d0; omega) ha.d1 (by have := hb.n0; omega) hb.n1 (by have := hb.d0; omega) hb.d1
  rw [both_q hp hq, rat_of, rat_of] at h
  exact h
theorem ofTwoMinus (w : World) : Calls Tryz.prog 176 #[.int .i64 5] w fun e w' => e = .returned (.func (.func 178) #[] #[]) ∧ w = w' := by
  go_enter Tryz.func176, Tryz.ntmps176
  go_wp2_with fail
  go_ret
  exact ⟨rfl, rfl⟩
theorem doMinus (p q : Rat) (hp : fitsR p = true) (hq : fitsR q = true) (w : World) : Calls Tryz.prog 178 #[.agg #[.int .i64 p.num, .int .i64 ((p.den : Nat) : Int)], .agg #[.int .i64 q.num, .int .i64 ((q.den : Nat) : Int)]] w fun e w' => e = .returned (.tuple #[.agg #[.int .i64 (rN (p - q)), .int .i64 (rD (p - q))], .int .i64 (rE (p - q))]) ∧ Below w.heap.size w w' := by
  have ha := okq hp
  have hb := okq hq
  have h := sub_any p.num ((p.den : Nat) : Int) q.num ((q.den : Nat) : Int) w (by have := ha.n0; omega) ha.n1 (by have := ha.d0; omega) ha.d1 (by have := hb.n0; omega) hb.n1 (by have := hb.d0; omega) hb.d1
  rw [both_q hp hq, rat_of, rat_of] at h
  exact h
theorem ofTwoTimes (w : World) : Calls Tryz.prog 176 #[.int .i64 6] w fun e w' => e = .returned (.func (.func 120) #[] #[]) ∧ w = w' := by
  go_enter Tryz.func176, Tryz.ntmps176
  go_wp2_with fail
  go_ret
  exact ⟨rfl, rfl⟩
theorem doTimes (p q : Rat) (hp : fitsR p = true) (hq : fitsR q = true) (w : World) : Calls Tryz.prog 120 #[.agg #[.int .i64 p.num, .int .i64 ((p.den : Nat) : Int)], .agg #[.int .i64 q.num, .int .i64 ((q.den : Nat) : Int)]] w fun e w' => e = .returned (.tuple #[.agg #[.int .i64 (rN (p * q)), .int .i64 (rD (p * q))], .int .i64 (rE (p * q))]) ∧ Below w.heap.size w w' := by
  have ha := okq hp
  have hb := okq hq
  have h := mulr_any p.num ((p.den : Nat) : Int) q.num ((q.den : Nat) : Int) w (by have := ha.n0; omega) ha.n1 (by have := ha.d0; omega) ha.d1 (by have := hb.n0; omega) hb.n1 (by have := hb.d0; omega) hb.d1
  rw [both_q hp hq, rat_of, rat_of] at h
  exact h
theorem ordered_mk (o : Int) (w : World) : Calls Tryz.prog 179 #[.int .i64 o] w fun e w' => ∃ P, e = .returned (.func (.func 183) #[] #[.pointer (some ⟨P, 0, none⟩)]) ∧ w'.cell? ⟨P, 0, none⟩ = some (.int .i64 o) ∧ Below w.heap.size w w' := by
  go_enter Tryz.func179, Tryz.ntmps179
  go_wp2_with fail
  go_ret
  exact ⟨w.heap.size, rfl, by rw [World.cell?_alloc_at _ _ _ _ rfl]; rfl, newF _ _⟩
theorem ofTwoLeast (w : World) : Calls Tryz.prog 176 #[.int .i64 7] w fun e w' => ∃ P, e = .returned (.func (.func 183) #[] #[.pointer (some ⟨P, 0, none⟩)]) ∧ w'.cell? ⟨P, 0, none⟩ = some (.int .i64 (-1)) ∧ Below w.heap.size w w' := by
  have HO := Lib.hid (fun w' => ordered_mk (-1) w')
  go_enter Tryz.func176, Tryz.ntmps176
  go_wp2_with fail
  refine (HO.out _).mono ?_
  rintro e w1 ⟨P, rfl, hc, hb⟩
  have HC := Lib.hid hc
  have HB := Lib.hid hb
  clear hc hb
  go_wp2_with fail
  go_ret
  exact ⟨P, rfl, HC.out, HB.out⟩
theorem ofTwoMost (w : World) : Calls Tryz.prog 176 #[.int .i64 8] w fun e w' => ∃ P, e = .returned (.func (.func 183) #[] #[.pointer (some ⟨P, 0, none⟩)]) ∧ w'.cell? ⟨P, 0, none⟩ = some (.int .i64 1) ∧ Below w.heap.size w w' := by
  have HO := Lib.hid (fun w' => ordered_mk 1 w')
  go_enter Tryz.func176, Tryz.ntmps176
  go_wp2_with fail
  refine (HO.out _).mono ?_
  rintro e w1 ⟨P, rfl, hc, hb⟩
  have HC := Lib.hid hc
  have HB := Lib.hid hb
  clear hc hb
  go_wp2_with fail
  go_ret
  exact ⟨P, rfl, HC.out, HB.out⟩

end Go.Proofs.YtgeneoamngfomaaGreatDoor

/-
  chattelref08.Value: what it answers of an op of two numbers (written by gen_vtb.py).
-/
import Derived.Test.YtfkaliammmpcfaaGreatDoorVtA
import Derived.Deep.RegionHeld3
namespace Go.Proofs.YtfkaliammmpcfaaGreatDoor
open Go.RowKit Go.Lib Go.Shelf Go.Maps
set_option linter.unusedVariables false
set_option linter.unusedSimpArgs false

theorem rt_add {n1 d1 n2 d2 : Int} (h1 : d1 ≠ 0) (h2 : d2 ≠ 0) : rat (n1 * d2 + n2 * d1) (d1 * d2) = rat n1 d1 + rat n2 d2 := (Rat.divInt_add_divInt n1 n2 h1 h2).symm
theorem rt_mul {n1 d1 n2 d2 : Int} : rat (n1 * n2) (d1 * d2) = rat n1 d1 * rat n2 d2 := (Rat.divInt_mul_divInt n1 n2).symm
theorem rt_sub {n1 d1 n2 d2 : Int} (h1 : d1 ≠ 0) (h2 : d2 ≠ 0) : rat (n1 * d2 + -n2 * d1) (d1 * d2) = rat n1 d1 - rat n2 d2 := by
  rw [rt_add h1 h2, rat_opp, Rat.sub_eq_add_neg]
theorem fit_eq (q : Rat) : fitV q = .tuple #[.agg #[.int .i64 (vN (fitQ q)), .int .i64 (vD (fitQ q))], .int .i64 (vE (fitQ q))] ∧ (vE (fitQ q) = 0 → vB (fitQ q) = true) ∧ (vE (fitQ q) ≠ 0 → vN (fitQ q) = 0 ∧ vD (fitQ q) = 0 ∧ vB (fitQ q) = false) := by
  unfold fitV tup rN rD rE fitQ
  by_cases h : fitsR q = true
  · simp only [if_pos h]
    exact ⟨rfl, fun _ => rfl, fun h => absurd rfl h⟩
  · simp only [if_neg h]
    exact ⟨rfl, (fun h => by cases h), fun _ => ⟨rfl, rfl, rfl⟩⟩
theorem ord_eq {a b : Rat} : (((a.num * ((b.den : Nat) : Int) - b.num * ((a.den : Nat) : Int)).sign ≤ 0) ↔ ¬ b < a) := by
  rw [Rat.lt_iff]
  constructor
  · intro h c
    have : 0 < a.num * ((b.den : Nat) : Int) - b.num * ((a.den : Nat) : Int) := by omega
    rw [Int.sign_eq_one_of_pos this] at h
    exact absurd h (by decide)
  · intro h
    have : a.num * ((b.den : Nat) : Int) - b.num * ((a.den : Nat) : Int) ≤ 0 := by omega
    rcases Int.lt_trichotomy (a.num * ((b.den : Nat) : Int) - b.num * ((a.den : Nat) : Int)) 0 with c | c | c
    · rw [Int.sign_eq_neg_one_of_neg c]; decide
    · rw [c]; decide
    · omega
theorem lt_up {a : Nat} (h : a < 2 ^ 64) : a < 2 ^ 400 := lim_up (k := 64) (m := 400) (by decide) h
theorem l8t {k m : Nat} (h : k + k ≤ m) {a b : Int} (ha : a.natAbs < 2 ^ k) (hb : b.natAbs < 2 ^ k) : (a * b).natAbs < 2 ^ m := lim_up h (mul_bits ha hb)
theorem l9t {k m : Nat} (h : k + k + 1 ≤ m) {a b c d : Int} (ha : a.natAbs < 2 ^ k) (hb : b.natAbs < 2 ^ k) (hc : c.natAbs < 2 ^ k) (hd : d.natAbs < 2 ^ k) : (a * b + c * d).natAbs < 2 ^ m := lim_up h (add_bits (mul_bits ha hb) (mul_bits hc hd))
theorem l0t {k : Nat} : (0 : Int).natAbs < 2 ^ k := Nat.two_pow_pos k
theorem l1t {k : Nat} (h : k ≠ 0) : (1 : Int).natAbs < 2 ^ k := Nat.one_lt_two_pow h
theorem neg_lt {a : Int} {K : Nat} (h : a.natAbs < K) : (-a).natAbs < K := by rw [Int.natAbs_neg]; exact h
theorem lim400 {r : Rat} (h : fitsR r = true) : r.num.natAbs < 2 ^ 400 ∧ (((r.den : Nat) : Int)).natAbs < 2 ^ 400 ∧ (((r.den : Nat) : Int)) ≠ 0 ∧ (-9223372036854775808 ≤ r.num ∧ r.num ≤ 9223372036854775807) ∧ (-9223372036854775808 ≤ ((r.den : Nat) : Int) ∧ ((r.den : Nat) : Int) ≤ 9223372036854775807) := by
  have hk := okR_of h
  have h1 := hk.n0
  have h2 := hk.n1
  have h3 := hk.d0
  have h4 := hk.d1
  have e2 : r.num.natAbs < 2 ^ 64 := by omega
  have e3 : (((r.den : Nat) : Int)).natAbs < 2 ^ 64 := by omega
  have e4 : (((r.den : Nat) : Int)) ≠ 0 := by omega
  have e5 : (-9223372036854775808 ≤ r.num ∧ r.num ≤ 9223372036854775807) ∧ (-9223372036854775808 ≤ ((r.den : Nat) : Int) ∧ ((r.den : Nat) : Int) ≤ 9223372036854775807) := ⟨⟨by omega, by omega⟩, ⟨by omega, by omega⟩⟩
  exact ⟨lt_up e2, lt_up e3, e4, e5.1, e5.2⟩
/-- With two values kept aside. -/
structure RvU (w0 wx : World) (Q : Nat) (op a b n d : Int) (X Y : Nat) (an ad bn bd : Int) : Prop where
  s : RvS w0 wx Q op a b n d
  x0 : wx.cell? ⟨X, 0, none⟩ = some (.int .i64 an)
  x1 : wx.cell? ⟨X, 1, none⟩ = some (.int .i64 ad)
  y0 : wx.cell? ⟨Y, 0, none⟩ = some (.int .i64 bn)
  y1 : wx.cell? ⟨Y, 1, none⟩ = some (.int .i64 bd)
  w0' : wx.frozen? ⟨Y, 0, none⟩ = false
  w1' : wx.frozen? ⟨Y, 1, none⟩ = false
  lt : Q + 1 < X ∧ X < Y ∧ w0.heap.size ≤ Q
theorem RvU.keep {w0 wx wy : World} {Q : Nat} {op a b n d : Int} {X Y : Nat} {an ad bn bd : Int} (h : RvU w0 wx Q op a b n d X Y an ad bn bd) (hb : Below wx.heap.size wx wy) : RvU w0 wy Q op a b n d X Y an ad bn bd :=
  ⟨h.s.keep hb, keepF hb h.x0, keepF hb h.x1, keepF hb h.y0, keepF hb h.y1, (hb.frozen (p := ⟨Y, 0, none⟩) (ltF h.y0)).trans h.w0', (hb.frozen (p := ⟨Y, 1, none⟩) (ltF h.y0)).trans h.w1', h.lt⟩
theorem RvU.set {w0 wx : World} {Q : Nat} {op a b n d : Int} {X Y : Nat} {an ad bn bd : Int} (h : RvU w0 wx Q op a b n d X Y an ad bn bd) (un ud : Int) : RvU w0 ((wx.setCell ⟨Y, 0, none⟩ (.int .i64 un)).setCell ⟨Y, 1, none⟩ (.int .i64 ud)) Q op a b n d X Y an ad un ud := by
  have l := h.lt
  have kc : ∀ z i v, z < Y → wx.cell? ⟨z, i, none⟩ = some v → ((wx.setCell ⟨Y, 0, none⟩ (.int .i64 un)).setCell ⟨Y, 1, none⟩ (.int .i64 ud)).cell? ⟨z, i, none⟩ = some v := fun z i v hz hc => by
    rw [cell_other (fun e => by injection e with e _ _; omega), cell_other (fun e => by injection e with e _ _; omega)]; exact hc
  have kf : ∀ z i, wx.frozen? ⟨z, i, none⟩ = false → ((wx.setCell ⟨Y, 0, none⟩ (.int .i64 un)).setCell ⟨Y, 1, none⟩ (.int .i64 ud)).frozen? ⟨z, i, none⟩ = false := fun z i hf => by rw [World.frozen?_setCell, World.frozen?_setCell]; exact hf
  refine ⟨⟨kc _ _ _ (by omega) h.s.r0, kc _ _ _ (by omega) h.s.r1, kf _ _ h.s.z0, kf _ _ h.s.z1, kc _ _ _ (by omega) h.s.n0, kc _ _ _ (by omega) h.s.n1, kc _ _ _ (by omega) h.s.n2, kc _ _ _ (by omega) h.s.n3, kc _ _ _ (by omega) h.s.n4, ?_⟩, kc _ _ _ (by omega) h.x0, kc _ _ _ (by omega) h.x1, ?_, ?_, kf _ _ h.w0', kf _ _ h.w1', h.lt⟩
  · refine Below.setCell (Below.setCell h.s.bel ?_ _) ?_ _
    · show w0.heap.size ≤ Y
      omega
    · show w0.heap.size ≤ Y
      omega
  · rw [cell_other (fun e => by cases e), cell_same h.y0]
  · rw [cell_same ((cell_other (fun e => by cases e)).trans h.y1)]
/-- Behind the first value. -/
theorem RvU.new {w0 w2 : World} {Q : Nat} {op a b n d : Int} (h : RvS w0 w2 Q op a b n d) (hq : w0.heap.size ≤ Q) (an ad : Int) : RvU w0 ((w2.alloc (.cells #[.int .i64 an, .int .i64 ad] 29)).alloc (.cells #[.int .i64 0, .int .i64 1] 29)) Q op a b n d w2.heap.size (w2.heap.size + 1) an ad 0 1 := by
  have hl := ltF h.n0
  have b1 := newF w2 (.cells #[.int .i64 an, .int .i64 ad] 29)
  have b2 := newF (w2.alloc (.cells #[.int .i64 an, .int .i64 ad] 29)) (.cells #[.int .i64 0, .int .i64 1] 29)
  have c0 : (w2.alloc (.cells #[.int .i64 an, .int .i64 ad] 29)).cell? ⟨w2.heap.size, 0, none⟩ = some (.int .i64 an) := by rw [World.cell?_alloc_at _ _ _ _ rfl]; rfl
  have c1 : (w2.alloc (.cells #[.int .i64 an, .int .i64 ad] 29)).cell? ⟨w2.heap.size, 1, none⟩ = some (.int .i64 ad) := by rw [World.cell?_alloc_at _ _ _ _ rfl]; rfl
  refine ⟨(h.keep b1).keep b2, keepF b2 c0, keepF b2 c1, ?_, ?_, World.frozen?_alloc_at _ _ _ _ (by simp), World.frozen?_alloc_at _ _ _ _ (by simp), ⟨by omega, by omega, hq⟩⟩
  · rw [World.cell?_alloc_at _ _ _ _ (by simp)]; rfl
  · rw [World.cell?_alloc_at _ _ _ _ (by simp)]; rfl
theorem sgn3 {z sg : Int} (h : z.sign = sg) : sg = -1 ∨ sg = 0 ∨ sg = 1 := by
  rcases Int.lt_trichotomy z 0 with c | c | c
  · rw [Int.sign_eq_neg_one_of_neg c] at h; exact .inl h.symm
  · rw [c] at h; exact .inr (.inl h.symm)
  · rw [Int.sign_eq_one_of_pos c] at h; exact .inr (.inr h.symm)
/-- Four cells of a Big that is kept aside. -/
structure BxS (w : World) (Z : Nat) (c0 c1 c2 c3 : Value) : Prop where
  b0 : w.cell? ⟨Z, 0, none⟩ = some c0
  b1 : w.cell? ⟨Z, 1, none⟩ = some c1
  b2 : w.cell? ⟨Z, 2, none⟩ = some c2
  b3 : w.cell? ⟨Z, 3, none⟩ = some c3
theorem BxS.keep {w w' : World} {Z : Nat} {c0 c1 c2 c3 : Value} (h : BxS w Z c0 c1 c2 c3) (hb : Below w.heap.size w w') : BxS w' Z c0 c1 c2 c3 := ⟨keepF hb h.b0, keepF hb h.b1, keepF hb h.b2, keepF hb h.b3⟩
theorem BxS.new (w : World) (c0 c1 c2 c3 : Value) : BxS (w.alloc (.cells #[c0, c1, c2, c3] 68)) w.heap.size c0 c1 c2 c3 := by
  refine ⟨?_, ?_, ?_, ?_⟩
  all_goals rw [World.cell?_alloc_at _ _ _ _ rfl]
  all_goals rfl
theorem BxS.set4 {w : World} {Z : Nat} {c0 c1 c2 c3 : Value} (h : BxS w Z c0 c1 c2 c3) (x0 x1 x2 x3 : Value) : BxS ((((w.setCell ⟨Z, 0, none⟩ x0).setCell ⟨Z, 1, none⟩ x1).setCell ⟨Z, 2, none⟩ x2).setCell ⟨Z, 3, none⟩ x3) Z x0 x1 x2 x3 := by
  refine ⟨?_, ?_, ?_, ?_⟩
  · rw [cell_other (fun e => by cases e), cell_other (fun e => by cases e), cell_other (fun e => by cases e), cell_same h.b0]
  · rw [cell_other (fun e => by cases e), cell_other (fun e => by cases e), cell_same ((cell_other (fun e => by cases e)).trans h.b1)]
  · rw [cell_other (fun e => by cases e), cell_same ((cell_other (fun e => by cases e)).trans ((cell_other (fun e => by cases e)).trans h.b2))]
  · rw [cell_same ((cell_other (fun e => by cases e)).trans ((cell_other (fun e => by cases e)).trans ((cell_other (fun e => by cases e)).trans h.b3)))]
theorem RvU.set4 {w0 w : World} {Q : Nat} {op a b n d : Int} {X Y Z : Nat} {an ad bn bd : Int} (h : RvU w0 w Q op a b n d X Y an ad bn bd) (hY : Y < Z) (x0 x1 x2 x3 : Value) : RvU w0 ((((w.setCell ⟨Z, 0, none⟩ x0).setCell ⟨Z, 1, none⟩ x1).setCell ⟨Z, 2, none⟩ x2).setCell ⟨Z, 3, none⟩ x3) Q op a b n d X Y an ad bn bd := by
  have l := h.lt
  have kc : ∀ z i v, z < Z → w.cell? ⟨z, i, none⟩ = some v → ((((w.setCell ⟨Z, 0, none⟩ x0).setCell ⟨Z, 1, none⟩ x1).setCell ⟨Z, 2, none⟩ x2).setCell ⟨Z, 3, none⟩ x3).cell? ⟨z, i, none⟩ = some v := fun z i v hz hc => (four_other (by omega)).trans hc
  have kf : ∀ z i, w.frozen? ⟨z, i, none⟩ = false → ((((w.setCell ⟨Z, 0, none⟩ x0).setCell ⟨Z, 1, none⟩ x1).setCell ⟨Z, 2, none⟩ x2).setCell ⟨Z, 3, none⟩ x3).frozen? ⟨z, i, none⟩ = false := fun z i hf => by rw [World.frozen?_setCell, World.frozen?_setCell, World.frozen?_setCell, World.frozen?_setCell]; exact hf
  refine ⟨⟨kc _ _ _ (by omega) h.s.r0, kc _ _ _ (by omega) h.s.r1, kf _ _ h.s.z0, kf _ _ h.s.z1, kc _ _ _ (by omega) h.s.n0, kc _ _ _ (by omega) h.s.n1, kc _ _ _ (by omega) h.s.n2, kc _ _ _ (by omega) h.s.n3, kc _ _ _ (by omega) h.s.n4, ?_⟩, kc _ _ _ (by omega) h.x0, kc _ _ _ (by omega) h.x1, kc _ _ _ (by omega) h.y0, kc _ _ _ (by omega) h.y1, kf _ _ h.w0', kf _ _ h.w1', h.lt⟩
  refine Below.setCell (Below.setCell (Below.setCell (Below.setCell h.s.bel ?_ _) ?_ _) ?_ _) ?_ _
  all_goals (show w0.heap.size ≤ Z; omega)
/-- What a call answers. -/
def rvT (v : Option (Option Rat)) : Value := .tuple #[.agg #[.int .i64 (vN v), .int .i64 (vD v)], .bool (vB v), .int .i64 (vE v)]
set_option maxRecDepth 100000 in
set_option maxHeartbeats 8000000 in
theorem rv_bad1 (t : List Nd) (b o cap : Nat) (p : Nat) (hT : TmA t p) (hcap : t.length ≤ cap) (hl : t.length ≤ 1000) (op : Int) (e : opA t p = op) (h4 : 4 ≤ op) (h8 : op ≤ 8) (hc : cnO op = 2) (day : Int) (va vn vc : _) (w : World) (hN : NdA w b o t)
    (hA : ∀ w', Below w.heap.size w w' → Calls Tryz.prog 9 #[.slice (some ⟨b, o, none⟩) t.length cap, .int .i64 ((plA t (p + 1) 0 : Nat) : Int), .int .i64 day, .slice va vn vc] w' fun e w'' => e = .returned (.tuple #[.agg #[.int .i64 0, .int .i64 0], .bool false, .int .i64 11]) ∧ Below w'.heap.size w' w'') :
    Calls Tryz.prog 9 #[.slice (some ⟨b, o, none⟩) t.length cap, .int .i64 (p : Nat), .int .i64 day, .slice va vn vc] w fun e w' => e = .returned (.tuple #[.agg #[.int .i64 0, .int .i64 0], .bool false, .int .i64 11]) ∧ Below w.heap.size w w' := by
  have hp := hT.lt
  have HN0 := Lib.hid (newF w (.cells #[.int .i64 0, .int .i64 0] 29))
  obtain ⟨k0, k1, k2, k3, k4⟩ := (hN.keep HN0.out) p hp
  have hop : (t.getD p default).op = op := e
  rw [hop] at k0
  have p0 : (0 : Int) ≤ (p : Int) := by omega
  have p1 : (p : Int) < (t.length : Int) := by omega
  have HBl := Lib.hid (fun (w' : World) (hb : Below w.heap.size w w') => rblT_any t hl b o cap p hcap hT w' (hN.keep hb))
  rw [e, hc] at HBl
  have HPl : Hid (plL t p 2 = [((plA t (p + 1) 0 : Nat) : Int), ((plA t (p + 1) 1 : Nat) : Int)]) := Lib.hid rfl
  rw [HPl.out] at HBl
  generalize t.getD p default = nd at *
  obtain ⟨q0, qa, qb, qn, qd⟩ := nd
  dsimp only at k0 k1 k2 k3 k4
  have HS := Lib.hid (RvS.new w op qa qb qn qd)
  have n0 := HS.out.n0
  have o1 : (op == 1) = false := beq_false_of_ne (by omega)
  have o2 : (op == 2) = false := beq_false_of_ne (by omega)
  have HA := Lib.hid hA
  clear hA
  clear hN hop e hT hc
  generalize plA t (p + 1) 0 = pa at *
  generalize plA t (p + 1) 1 = pb at *
  go_enter Tryz.func9, Tryz.ntmps9
  go_wp2_with fail
  generalize (w.alloc (.cells #[.int .i64 0, .int .i64 0] 29)).alloc (.cells #[.int .i64 op, .int .i64 qa, .int .i64 qb, .int .i64 qn, .int .i64 qd] 47) = W0 at *
  refine (HBl.out _ HS.out.bel).mono ?_
  rintro e w1 ⟨vl, rfl, hown, hb1⟩
  have HO1 := Lib.hid hown
  have HS1 := Lib.hid (HS.out.keep hb1)
  obtain ⟨la, lc, rfl⟩ := own_len hown
  obtain ⟨g, hg0, hg1⟩ : ∃ g, la = some ⟨g, 0, none⟩ ∧ ∀ wx, YtfkaliammmpcfaaGreatDoor.Own wx W0.heap.size (.slice la 2 lc) [((pa : Nat) : Int), ((pb : Nat) : Int)] → wx.cell? ⟨g, 0, none⟩ = some (.int .i64 ((pa : Nat) : Int)) ∧ wx.cell? ⟨g, 1, none⟩ = some (.int .i64 ((pb : Nat) : Int)) := by
    rcases hown.reads with ⟨e, _⟩ | ⟨g, cap', e, _⟩
    · injection e with _ e _
      simp at e
    · injection e with e1 _ _
      refine ⟨g, e1, fun wx hx => ?_⟩
      subst e1
      have hcl := World.ownsRow.cells (g := g) hx rfl
      have a0 := hcl 0 (.int .i64 ((pa : Nat) : Int)) rfl
      have a1 := hcl 1 (.int .i64 ((pb : Nat) : Int)) rfl
      rw [Go.WideShapes.add_plain, Nat.zero_add] at a0 a1
      exact ⟨a0, a1⟩
  subst hg0
  have HG := Lib.hid hg1
  have g0 := (hg1 _ hown).1
  clear hown hb1 hg1 HS n0 HBl HPl
  go_wp2_with fail
  refine (HA.out _ HS1.out.bel).mono ?_
  rintro e w2 ⟨rfl, hb2⟩
  have HS2 := Lib.hid ((HS1.out.keep hb2).keep (newF w2 (.cells #[.int .i64 0, .int .i64 0] 29)))
  have HO2 := Lib.hid ((HO1.out.grown hb2).grown (newF w2 (.cells #[.int .i64 0, .int .i64 0] 29)))
  clear hb2 g0 HS1 HO1 HA
  have r0 := HS2.out.r0
  have r1 := HS2.out.r1
  have z0 := HS2.out.z0
  have z1 := HS2.out.z1
  go_wp2_with fail
  exact bodyPost_ret (v := .tuple #[.agg #[.int .i64 0, .int .i64 0], .bool false, .int .i64 11]) (by simp [results, Tryz.results9, go_sem, r0, r1]) rfl ⟨rfl, set2Q HS2.out.bel (Nat.le_refl _)⟩

set_option maxRecDepth 100000 in
set_option maxHeartbeats 8000000 in
theorem rv_bad2 (t : List Nd) (b o cap : Nat) (p : Nat) (hT : TmA t p) (hcap : t.length ≤ cap) (hl : t.length ≤ 1000) (op : Int) (e : opA t p = op) (h4 : 4 ≤ op) (h8 : op ≤ 8) (hc : cnO op = 2) (day : Int) (va vn vc : _) (w : World) (hN : NdA w b o t)
    (an ad : Int) (ab : Bool) (hA : ∀ w', Below w.heap.size w w' → Calls Tryz.prog 9 #[.slice (some ⟨b, o, none⟩) t.length cap, .int .i64 ((plA t (p + 1) 0 : Nat) : Int), .int .i64 day, .slice va vn vc] w' fun e w'' => e = .returned (.tuple #[.agg #[.int .i64 an, .int .i64 ad], .bool ab, .int .i64 0]) ∧ Below w'.heap.size w' w'') (hB : ∀ w', Below w.heap.size w w' → Calls Tryz.prog 9 #[.slice (some ⟨b, o, none⟩) t.length cap, .int .i64 ((plA t (p + 1) 1 : Nat) : Int), .int .i64 day, .slice va vn vc] w' fun e w'' => e = .returned (.tuple #[.agg #[.int .i64 0, .int .i64 0], .bool false, .int .i64 11]) ∧ Below w'.heap.size w' w'') :
    Calls Tryz.prog 9 #[.slice (some ⟨b, o, none⟩) t.length cap, .int .i64 (p : Nat), .int .i64 day, .slice va vn vc] w fun e w' => e = .returned (.tuple #[.agg #[.int .i64 0, .int .i64 0], .bool false, .int .i64 11]) ∧ Below w.heap.size w w' := by
  have hp := hT.lt
  have HN0 := Lib.hid (newF w (.cells #[.int .i64 0, .int .i64 0] 29))
  obtain ⟨k0, k1, k2, k3, k4⟩ := (hN.keep HN0.out) p hp
  have hop : (t.getD p default).op = op := e
  rw [hop] at k0
  have p0 : (0 : Int) ≤ (p : Int) := by omega
  have p1 : (p : Int) < (t.length : Int) := by omega
  have HBl := Lib.hid (fun (w' : World) (hb : Below w.heap.size w w') => rblT_any t hl b o cap p hcap hT w' (hN.keep hb))
  rw [e, hc] at HBl
  have HPl : Hid (plL t p 2 = [((plA t (p + 1) 0 : Nat) : Int), ((plA t (p + 1) 1 : Nat) : Int)]) := Lib.hid rfl
  rw [HPl.out] at HBl
  generalize t.getD p default = nd at *
  obtain ⟨q0, qa, qb, qn, qd⟩ := nd
  dsimp only at k0 k1 k2 k3 k4
  have HS := Lib.hid (RvS.new w op qa qb qn qd)
  have n0 := HS.out.n0
  have o1 : (op == 1) = false := beq_false_of_ne (by omega)
  have o2 : (op == 2) = false := beq_false_of_ne (by omega)
  have HA := Lib.hid hA
  clear hA
  have HB := Lib.hid hB
  clear hB
  clear hN hop e hT hc
  generalize plA t (p + 1) 0 = pa at *
  generalize plA t (p + 1) 1 = pb at *
  go_enter Tryz.func9, Tryz.ntmps9
  go_wp2_with fail
  generalize (w.alloc (.cells #[.int .i64 0, .int .i64 0] 29)).alloc (.cells #[.int .i64 op, .int .i64 qa, .int .i64 qb, .int .i64 qn, .int .i64 qd] 47) = W0 at *
  refine (HBl.out _ HS.out.bel).mono ?_
  rintro e w1 ⟨vl, rfl, hown, hb1⟩
  have HO1 := Lib.hid hown
  have HS1 := Lib.hid (HS.out.keep hb1)
  obtain ⟨la, lc, rfl⟩ := own_len hown
  obtain ⟨g, hg0, hg1⟩ : ∃ g, la = some ⟨g, 0, none⟩ ∧ ∀ wx, YtfkaliammmpcfaaGreatDoor.Own wx W0.heap.size (.slice la 2 lc) [((pa : Nat) : Int), ((pb : Nat) : Int)] → wx.cell? ⟨g, 0, none⟩ = some (.int .i64 ((pa : Nat) : Int)) ∧ wx.cell? ⟨g, 1, none⟩ = some (.int .i64 ((pb : Nat) : Int)) := by
    rcases hown.reads with ⟨e, _⟩ | ⟨g, cap', e, _⟩
    · injection e with _ e _
      simp at e
    · injection e with e1 _ _
      refine ⟨g, e1, fun wx hx => ?_⟩
      subst e1
      have hcl := World.ownsRow.cells (g := g) hx rfl
      have a0 := hcl 0 (.int .i64 ((pa : Nat) : Int)) rfl
      have a1 := hcl 1 (.int .i64 ((pb : Nat) : Int)) rfl
      rw [Go.WideShapes.add_plain, Nat.zero_add] at a0 a1
      exact ⟨a0, a1⟩
  subst hg0
  have HG := Lib.hid hg1
  have g0 := (hg1 _ hown).1
  clear hown hb1 hg1 HS n0 HBl HPl
  go_wp2_with fail
  refine (HA.out _ HS1.out.bel).mono ?_
  rintro e w2 ⟨rfl, hb2⟩
  have HU3 := Lib.hid (RvU.new (HS1.out.keep hb2) (Nat.le_refl _) an ad)
  have HO3 := Lib.hid (((HO1.out.grown hb2).grown (newF w2 (.cells #[.int .i64 an, .int .i64 ad] 29))).grown (newF (w2.alloc (.cells #[.int .i64 an, .int .i64 ad] 29)) (.cells #[.int .i64 0, .int .i64 1] 29)))
  have g1 := (HG.out _ HO3.out).2
  clear hb2 g0 HS1 HO1 HA
  go_wp2_with fail
  refine (HB.out _ HU3.out.s.bel).mono ?_
  rintro e w4 ⟨rfl, hb4⟩
  have HU4 := Lib.hid (HU3.out.keep hb4)
  have y0 := HU4.out.y0
  have y1 := HU4.out.y1
  have wz0 := HU4.out.w0'
  have wz1 := HU4.out.w1'
  have HU5 := Lib.hid (HU4.out.set 0 0)
  have r0 := HU5.out.s.r0
  have r1 := HU5.out.s.r1
  have z0 := HU5.out.s.z0
  have z1 := HU5.out.s.z1
  clear hb4 g1 HO3 HB HU3 HU4 HG
  go_wp2_with fail
  exact bodyPost_ret (v := .tuple #[.agg #[.int .i64 0, .int .i64 0], .bool false, .int .i64 11]) (by simp [results, Tryz.results9, go_sem, r0, r1]) rfl ⟨rfl, set2Q HU5.out.s.bel (Nat.le_refl _)⟩

set_option maxRecDepth 100000 in
set_option maxHeartbeats 8000000 in
theorem rv_unk (t : List Nd) (b o cap : Nat) (p : Nat) (hT : TmA t p) (hcap : t.length ≤ cap) (hl : t.length ≤ 1000) (op : Int) (e : opA t p = op) (h4 : 4 ≤ op) (h8 : op ≤ 8) (hc : cnO op = 2) (day : Int) (va vn vc : _) (w : World) (hN : NdA w b o t)
    (an ad : Int) (ab : Bool) (hA : ∀ w', Below w.heap.size w w' → Calls Tryz.prog 9 #[.slice (some ⟨b, o, none⟩) t.length cap, .int .i64 ((plA t (p + 1) 0 : Nat) : Int), .int .i64 day, .slice va vn vc] w' fun e w'' => e = .returned (.tuple #[.agg #[.int .i64 an, .int .i64 ad], .bool ab, .int .i64 0]) ∧ Below w'.heap.size w' w'') (bn bd : Int) (bb : Bool) (hB : ∀ w', Below w.heap.size w w' → Calls Tryz.prog 9 #[.slice (some ⟨b, o, none⟩) t.length cap, .int .i64 ((plA t (p + 1) 1 : Nat) : Int), .int .i64 day, .slice va vn vc] w' fun e w'' => e = .returned (.tuple #[.agg #[.int .i64 bn, .int .i64 bd], .bool bb, .int .i64 0]) ∧ Below w'.heap.size w' w'') (hk : (ab && bb) = false) :
    Calls Tryz.prog 9 #[.slice (some ⟨b, o, none⟩) t.length cap, .int .i64 (p : Nat), .int .i64 day, .slice va vn vc] w fun e w' => e = .returned (.tuple #[.agg #[.int .i64 0, .int .i64 0], .bool false, .int .i64 0]) ∧ Below w.heap.size w w' := by
  have hp := hT.lt
  have HN0 := Lib.hid (newF w (.cells #[.int .i64 0, .int .i64 0] 29))
  obtain ⟨k0, k1, k2, k3, k4⟩ := (hN.keep HN0.out) p hp
  have hop : (t.getD p default).op = op := e
  rw [hop] at k0
  have p0 : (0 : Int) ≤ (p : Int) := by omega
  have p1 : (p : Int) < (t.length : Int) := by omega
  have HBl := Lib.hid (fun (w' : World) (hb : Below w.heap.size w w') => rblT_any t hl b o cap p hcap hT w' (hN.keep hb))
  rw [e, hc] at HBl
  have HPl : Hid (plL t p 2 = [((plA t (p + 1) 0 : Nat) : Int), ((plA t (p + 1) 1 : Nat) : Int)]) := Lib.hid rfl
  rw [HPl.out] at HBl
  generalize t.getD p default = nd at *
  obtain ⟨q0, qa, qb, qn, qd⟩ := nd
  dsimp only at k0 k1 k2 k3 k4
  have HS := Lib.hid (RvS.new w op qa qb qn qd)
  have n0 := HS.out.n0
  have o1 : (op == 1) = false := beq_false_of_ne (by omega)
  have o2 : (op == 2) = false := beq_false_of_ne (by omega)
  have HA := Lib.hid hA
  clear hA
  have HB := Lib.hid hB
  clear hB
  clear hN hop e hT hc
  generalize plA t (p + 1) 0 = pa at *
  generalize plA t (p + 1) 1 = pb at *
  go_enter Tryz.func9, Tryz.ntmps9
  go_wp2_with fail
  generalize (w.alloc (.cells #[.int .i64 0, .int .i64 0] 29)).alloc (.cells #[.int .i64 op, .int .i64 qa, .int .i64 qb, .int .i64 qn, .int .i64 qd] 47) = W0 at *
  refine (HBl.out _ HS.out.bel).mono ?_
  rintro e w1 ⟨vl, rfl, hown, hb1⟩
  have HO1 := Lib.hid hown
  have HS1 := Lib.hid (HS.out.keep hb1)
  obtain ⟨la, lc, rfl⟩ := own_len hown
  obtain ⟨g, hg0, hg1⟩ : ∃ g, la = some ⟨g, 0, none⟩ ∧ ∀ wx, YtfkaliammmpcfaaGreatDoor.Own wx W0.heap.size (.slice la 2 lc) [((pa : Nat) : Int), ((pb : Nat) : Int)] → wx.cell? ⟨g, 0, none⟩ = some (.int .i64 ((pa : Nat) : Int)) ∧ wx.cell? ⟨g, 1, none⟩ = some (.int .i64 ((pb : Nat) : Int)) := by
    rcases hown.reads with ⟨e, _⟩ | ⟨g, cap', e, _⟩
    · injection e with _ e _
      simp at e
    · injection e with e1 _ _
      refine ⟨g, e1, fun wx hx => ?_⟩
      subst e1
      have hcl := World.ownsRow.cells (g := g) hx rfl
      have a0 := hcl 0 (.int .i64 ((pa : Nat) : Int)) rfl
      have a1 := hcl 1 (.int .i64 ((pb : Nat) : Int)) rfl
      rw [Go.WideShapes.add_plain, Nat.zero_add] at a0 a1
      exact ⟨a0, a1⟩
  subst hg0
  have HG := Lib.hid hg1
  have g0 := (hg1 _ hown).1
  clear hown hb1 hg1 HS n0 HBl HPl
  go_wp2_with fail
  refine (HA.out _ HS1.out.bel).mono ?_
  rintro e w2 ⟨rfl, hb2⟩
  have HU3 := Lib.hid (RvU.new (HS1.out.keep hb2) (Nat.le_refl _) an ad)
  have HO3 := Lib.hid (((HO1.out.grown hb2).grown (newF w2 (.cells #[.int .i64 an, .int .i64 ad] 29))).grown (newF (w2.alloc (.cells #[.int .i64 an, .int .i64 ad] 29)) (.cells #[.int .i64 0, .int .i64 1] 29)))
  have g1 := (HG.out _ HO3.out).2
  clear hb2 g0 HS1 HO1 HA
  go_wp2_with fail
  refine (HB.out _ HU3.out.s.bel).mono ?_
  rintro e w4 ⟨rfl, hb4⟩
  have HU4 := Lib.hid (HU3.out.keep hb4)
  have y0 := HU4.out.y0
  have y1 := HU4.out.y1
  have wz0 := HU4.out.w0'
  have wz1 := HU4.out.w1'
  have HU5 := Lib.hid (HU4.out.set bn bd)
  have r0 := HU5.out.s.r0
  have r1 := HU5.out.s.r1
  have z0 := HU5.out.s.z0
  have z1 := HU5.out.s.z1
  clear hb4 g1 HO3 HB HU3 HU4 HG
  cases ab with
  | false =>
    clear hk
    go_wp2_with fail
    exact bodyPost_ret (v := .tuple #[.agg #[.int .i64 0, .int .i64 0], .bool false, .int .i64 0]) (by simp [results, Tryz.results9, go_sem, r0, r1]) rfl ⟨rfl, set2Q HU5.out.s.bel (Nat.le_refl _)⟩
  | true =>
    cases bb with
    | true => cases hk
    | false =>
      clear hk
      go_wp2_with fail
      exact bodyPost_ret (v := .tuple #[.agg #[.int .i64 0, .int .i64 0], .bool false, .int .i64 0]) (by simp [results, Tryz.results9, go_sem, r0, r1]) rfl ⟨rfl, set2Q HU5.out.s.bel (Nat.le_refl _)⟩

set_option maxRecDepth 100000 in
set_option maxHeartbeats 8000000 in
theorem rv_least (t : List Nd) (b o cap : Nat) (p : Nat) (hT : TmA t p) (hcap : t.length ≤ cap) (hl : t.length ≤ 1000) (op : Int) (e : opA t p = op) (h4 : 4 ≤ op) (h8 : op ≤ 8) (hc : cnO op = 2) (day : Int) (va vn vc : _) (w : World) (hN : NdA w b o t)
    (ho : op = 7) (an ad : Int) (hA : ∀ w', Below w.heap.size w w' → Calls Tryz.prog 9 #[.slice (some ⟨b, o, none⟩) t.length cap, .int .i64 ((plA t (p + 1) 0 : Nat) : Int), .int .i64 day, .slice va vn vc] w' fun e w'' => e = .returned (.tuple #[.agg #[.int .i64 an, .int .i64 ad], .bool true, .int .i64 0]) ∧ Below w'.heap.size w' w'') (bn bd : Int) (hB : ∀ w', Below w.heap.size w w' → Calls Tryz.prog 9 #[.slice (some ⟨b, o, none⟩) t.length cap, .int .i64 ((plA t (p + 1) 1 : Nat) : Int), .int .i64 day, .slice va vn vc] w' fun e w'' => e = .returned (.tuple #[.agg #[.int .i64 bn, .int .i64 bd], .bool true, .int .i64 0]) ∧ Below w'.heap.size w' w'') (la1 : an.natAbs < 2 ^ 400) (la2 : ad.natAbs < 2 ^ 400) (la3 : ad ≠ 0) (la4 : -9223372036854775808 ≤ an ∧ an ≤ 9223372036854775807) (la5 : -9223372036854775808 ≤ ad ∧ ad ≤ 9223372036854775807) (lb1 : bn.natAbs < 2 ^ 400) (lb2 : bd.natAbs < 2 ^ 400) (lb3 : bd ≠ 0) (lb4 : -9223372036854775808 ≤ bn ∧ bn ≤ 9223372036854775807) (lb5 : -9223372036854775808 ≤ bd ∧ bd ≤ 9223372036854775807) (rn rd : Int) (hr : ((an * bd - bn * ad).sign ≤ 0 → rn = an ∧ rd = ad) ∧ (¬ (an * bd - bn * ad).sign ≤ 0 → rn = bn ∧ rd = bd)) :
    Calls Tryz.prog 9 #[.slice (some ⟨b, o, none⟩) t.length cap, .int .i64 (p : Nat), .int .i64 day, .slice va vn vc] w fun e w' => e = .returned (.tuple #[.agg #[.int .i64 rn, .int .i64 rd], .bool true, .int .i64 0]) ∧ Below w.heap.size w w' := by
  subst ho
  have hp := hT.lt
  have HN0 := Lib.hid (newF w (.cells #[.int .i64 0, .int .i64 0] 29))
  obtain ⟨k0, k1, k2, k3, k4⟩ := (hN.keep HN0.out) p hp
  have hop : (t.getD p default).op = 7 := e
  rw [hop] at k0
  have p0 : (0 : Int) ≤ (p : Int) := by omega
  have p1 : (p : Int) < (t.length : Int) := by omega
  have HBl := Lib.hid (fun (w' : World) (hb : Below w.heap.size w w') => rblT_any t hl b o cap p hcap hT w' (hN.keep hb))
  rw [e, hc] at HBl
  have HPl : Hid (plL t p 2 = [((plA t (p + 1) 0 : Nat) : Int), ((plA t (p + 1) 1 : Nat) : Int)]) := Lib.hid rfl
  rw [HPl.out] at HBl
  generalize t.getD p default = nd at *
  obtain ⟨q0, qa, qb, qn, qd⟩ := nd
  dsimp only at k0 k1 k2 k3 k4
  have HS := Lib.hid (RvS.new w 7 qa qb qn qd)
  have n0 := HS.out.n0
  have o1 : (7 == 1) = false := beq_false_of_ne (by omega)
  have o2 : (7 == 2) = false := beq_false_of_ne (by omega)
  have HA := Lib.hid hA
  clear hA
  have HB := Lib.hid hB
  clear hB
  have HLm := Lib.hid (show an.natAbs < 2 ^ 400 ∧ ad.natAbs < 2 ^ 400 ∧ ad ≠ 0 ∧ bn.natAbs < 2 ^ 400 ∧ bd.natAbs < 2 ^ 400 ∧ bd ≠ 0 from ⟨la1, la2, la3, lb1, lb2, lb3⟩)
  have HOa := Lib.hid (fun w' => rof_any an ad w' la4.1 la4.2 la5.1 la5.2)
  have HOb := Lib.hid (fun w' => rof_any bn bd w' lb4.1 lb4.2 lb5.1 lb5.2)
  clear la1 la2 la3 la4 la5 lb1 lb2 lb3 lb4 lb5
  have HRs := Lib.hid hr
  clear hr
  clear hN hop e hT hc
  generalize plA t (p + 1) 0 = pa at *
  generalize plA t (p + 1) 1 = pb at *
  go_enter Tryz.func9, Tryz.ntmps9
  go_wp2_with fail
  generalize (w.alloc (.cells #[.int .i64 0, .int .i64 0] 29)).alloc (.cells #[.int .i64 7, .int .i64 qa, .int .i64 qb, .int .i64 qn, .int .i64 qd] 47) = W0 at *
  refine (HBl.out _ HS.out.bel).mono ?_
  rintro e w1 ⟨vl, rfl, hown, hb1⟩
  have HO1 := Lib.hid hown
  have HS1 := Lib.hid (HS.out.keep hb1)
  obtain ⟨la, lc, rfl⟩ := own_len hown
  obtain ⟨g, hg0, hg1⟩ : ∃ g, la = some ⟨g, 0, none⟩ ∧ ∀ wx, YtfkaliammmpcfaaGreatDoor.Own wx W0.heap.size (.slice la 2 lc) [((pa : Nat) : Int), ((pb : Nat) : Int)] → wx.cell? ⟨g, 0, none⟩ = some (.int .i64 ((pa : Nat) : Int)) ∧ wx.cell? ⟨g, 1, none⟩ = some (.int .i64 ((pb : Nat) : Int)) := by
    rcases hown.reads with ⟨e, _⟩ | ⟨g, cap', e, _⟩
    · injection e with _ e _
      simp at e
    · injection e with e1 _ _
      refine ⟨g, e1, fun wx hx => ?_⟩
      subst e1
      have hcl := World.ownsRow.cells (g := g) hx rfl
      have a0 := hcl 0 (.int .i64 ((pa : Nat) : Int)) rfl
      have a1 := hcl 1 (.int .i64 ((pb : Nat) : Int)) rfl
      rw [Go.WideShapes.add_plain, Nat.zero_add] at a0 a1
      exact ⟨a0, a1⟩
  subst hg0
  have HG := Lib.hid hg1
  have g0 := (hg1 _ hown).1
  clear hown hb1 hg1 HS n0 HBl HPl
  go_wp2_with fail
  refine (HA.out _ HS1.out.bel).mono ?_
  rintro e w2 ⟨rfl, hb2⟩
  have HU3 := Lib.hid (RvU.new (HS1.out.keep hb2) (Nat.le_refl _) an ad)
  have HO3 := Lib.hid (((HO1.out.grown hb2).grown (newF w2 (.cells #[.int .i64 an, .int .i64 ad] 29))).grown (newF (w2.alloc (.cells #[.int .i64 an, .int .i64 ad] 29)) (.cells #[.int .i64 0, .int .i64 1] 29)))
  have g1 := (HG.out _ HO3.out).2
  clear hb2 g0 HS1 HO1 HA
  go_wp2_with fail
  refine (HB.out _ HU3.out.s.bel).mono ?_
  rintro e w4 ⟨rfl, hb4⟩
  have HU4 := Lib.hid (HU3.out.keep hb4)
  have y0 := HU4.out.y0
  have y1 := HU4.out.y1
  have wz0 := HU4.out.w0'
  have wz1 := HU4.out.w1'
  have HU5 := Lib.hid (HU4.out.set bn bd)
  have x0 := HU5.out.x0
  have x1 := HU5.out.x1
  clear hb4 g1 HO3 HB HU3 HU4 HG
  go_wp2_with fail
  refine (HOa.out _).mono ?_
  rintro e w6 ⟨⟨vx, rfl, hx⟩, hb6⟩
  obtain ⟨xs1, xa1, xk1, xc1, xs2, xa2, xk2, xc2, rfl, -, -, -, -⟩ := hx.parts
  have HX6 := Lib.hid (hx.keep (newF w6 (.cells #[.bool xs1, .slice xa1 xk1 xc1, .bool xs2, .slice xa2 xk2 xc2] 68)))
  have HU6 := Lib.hid ((HU5.out.keep hb6).keep (newF w6 (.cells #[.bool xs1, .slice xa1 xk1 xc1, .bool xs2, .slice xa2 xk2 xc2] 68)))
  have HP6 := Lib.hid (BxS.new w6 (.bool xs1) (.slice xa1 xk1 xc1) (.bool xs2) (.slice xa2 xk2 xc2))
  clear hx hb6 x0 x1 y0 y1 wz0 wz1 HU5 HOa
  have y0 := HU6.out.y0
  have y1 := HU6.out.y1
  go_wp2_with fail
  refine (HOb.out _).mono ?_
  rintro e w7 ⟨⟨vy, rfl, hy⟩, hb7⟩
  obtain ⟨ys1, ya1, yk1, yc1, ys2, ya2, yk2, yc2, rfl, -, -, -, -⟩ := hy.parts
  have HY7 := Lib.hid (hy.keep (newF w7 (.cells #[.bool ys1, .slice ya1 yk1 yc1, .bool ys2, .slice ya2 yk2 yc2] 68)))
  have HX7 := Lib.hid ((HX6.out.keep hb7).keep (newF w7 (.cells #[.bool ys1, .slice ya1 yk1 yc1, .bool ys2, .slice ya2 yk2 yc2] 68)))
  have HU7 := Lib.hid ((HU6.out.keep hb7).keep (newF w7 (.cells #[.bool ys1, .slice ya1 yk1 yc1, .bool ys2, .slice ya2 yk2 yc2] 68)))
  have HP7 := Lib.hid ((HP6.out.keep hb7).keep (newF w7 (.cells #[.bool ys1, .slice ya1 yk1 yc1, .bool ys2, .slice ya2 yk2 yc2] 68)))
  have HR7 := Lib.hid (BxS.new w7 (.bool ys1) (.slice ya1 yk1 yc1) (.bool ys2) (.slice ya2 yk2 yc2))
  clear hy hb7 y0 y1 HU6 HX6 HP6 HOb
  obtain ⟨p0, p1, p2, p3⟩ := HP7.out
  obtain ⟨q0, q1, q2, q3⟩ := HR7.out
  have HOr := Lib.hid (rordq_any an ad bn bd _ _ _ HX7.out HY7.out HLm.out.1 HLm.out.2.1 HLm.out.2.2.2.1 HLm.out.2.2.2.2.1)
  generalize hsg : (an * bd - bn * ad).sign = sg at HOr
  have HSg := Lib.hid hsg
  have sg3 := sgn3 hsg
  clear hsg
  go_wp2_with fail
  refine HOr.out.mono ?_
  rintro e w8 ⟨rfl, hb8⟩
  have HU8 := Lib.hid (HU7.out.keep hb8)
  have HX8 := Lib.hid (HX7.out.keep hb8)
  have HY8 := Lib.hid (HY7.out.keep hb8)
  have HP8 := Lib.hid (HP7.out.keep hb8)
  have HR8 := Lib.hid (HR7.out.keep hb8)
  clear hb8 p0 p1 p2 p3 q0 q1 q2 q3 HU7 HX7 HY7 HP7 HR7 HOr
  have n0 := HU8.out.s.n0
  have r0 := HU8.out.s.r0
  have r1 := HU8.out.s.r1
  have z0 := HU8.out.s.z0
  have z1 := HU8.out.s.z1
  rcases sg3 with rfl | rfl | rfl
  · have x0 := HU8.out.x0
    have x1 := HU8.out.x1
    have y0 := HU8.out.y0
    have y1 := HU8.out.y1
    go_wp2_with fail
    exact bodyPost_ret (v := .tuple #[.agg #[.int .i64 an, .int .i64 ad], .bool true, .int .i64 0]) (by simp [results, Tryz.results9, go_sem, r0, r1]) rfl ⟨by obtain ⟨e1, e2⟩ := HRs.out.1 (by rw [HSg.out]; decide); rw [e1, e2], set2Q HU8.out.s.bel (Nat.le_refl _)⟩
  · have x0 := HU8.out.x0
    have x1 := HU8.out.x1
    have y0 := HU8.out.y0
    have y1 := HU8.out.y1
    go_wp2_with fail
    exact bodyPost_ret (v := .tuple #[.agg #[.int .i64 an, .int .i64 ad], .bool true, .int .i64 0]) (by simp [results, Tryz.results9, go_sem, r0, r1]) rfl ⟨by obtain ⟨e1, e2⟩ := HRs.out.1 (by rw [HSg.out]; decide); rw [e1, e2], set2Q HU8.out.s.bel (Nat.le_refl _)⟩
  · have x0 := HU8.out.x0
    have x1 := HU8.out.x1
    have y0 := HU8.out.y0
    have y1 := HU8.out.y1
    go_wp2_with fail
    exact bodyPost_ret (v := .tuple #[.agg #[.int .i64 bn, .int .i64 bd], .bool true, .int .i64 0]) (by simp [results, Tryz.results9, go_sem, r0, r1]) rfl ⟨by obtain ⟨e1, e2⟩ := HRs.out.2 (by rw [HSg.out]; decide); rw [e1, e2], set2Q HU8.out.s.bel (Nat.le_refl _)⟩

set_option maxRecDepth 100000 in
set_option maxHeartbeats 8000000 in
theorem rv_most (t : List Nd) (b o cap : Nat) (p : Nat) (hT : TmA t p) (hcap : t.length ≤ cap) (hl : t.length ≤ 1000) (op : Int) (e : opA t p = op) (h4 : 4 ≤ op) (h8 : op ≤ 8) (hc : cnO op = 2) (day : Int) (va vn vc : _) (w : World) (hN : NdA w b o t)
    (ho : op = 8) (an ad : Int) (hA : ∀ w', Below w.heap.size w w' → Calls Tryz.prog 9 #[.slice (some ⟨b, o, none⟩) t.length cap, .int .i64 ((plA t (p + 1) 0 : Nat) : Int), .int .i64 day, .slice va vn vc] w' fun e w'' => e = .returned (.tuple #[.agg #[.int .i64 an, .int .i64 ad], .bool true, .int .i64 0]) ∧ Below w'.heap.size w' w'') (bn bd : Int) (hB : ∀ w', Below w.heap.size w w' → Calls Tryz.prog 9 #[.slice (some ⟨b, o, none⟩) t.length cap, .int .i64 ((plA t (p + 1) 1 : Nat) : Int), .int .i64 day, .slice va vn vc] w' fun e w'' => e = .returned (.tuple #[.agg #[.int .i64 bn, .int .i64 bd], .bool true, .int .i64 0]) ∧ Below w'.heap.size w' w'') (la1 : an.natAbs < 2 ^ 400) (la2 : ad.natAbs < 2 ^ 400) (la3 : ad ≠ 0) (la4 : -9223372036854775808 ≤ an ∧ an ≤ 9223372036854775807) (la5 : -9223372036854775808 ≤ ad ∧ ad ≤ 9223372036854775807) (lb1 : bn.natAbs < 2 ^ 400) (lb2 : bd.natAbs < 2 ^ 400) (lb3 : bd ≠ 0) (lb4 : -9223372036854775808 ≤ bn ∧ bn ≤ 9223372036854775807) (lb5 : -9223372036854775808 ≤ bd ∧ bd ≤ 9223372036854775807) (rn rd : Int) (hr : ((an * bd - bn * ad).sign ≤ 0 → rn = bn ∧ rd = bd) ∧ (¬ (an * bd - bn * ad).sign ≤ 0 → rn = an ∧ rd = ad)) :
    Calls Tryz.prog 9 #[.slice (some ⟨b, o, none⟩) t.length cap, .int .i64 (p : Nat), .int .i64 day, .slice va vn vc] w fun e w' => e = .returned (.tuple #[.agg #[.int .i64 rn, .int .i64 rd], .bool true, .int .i64 0]) ∧ Below w.heap.size w w' := by
  subst ho
  have hp := hT.lt
  have HN0 := Lib.hid (newF w (.cells #[.int .i64 0, .int .i64 0] 29))
  obtain ⟨k0, k1, k2, k3, k4⟩ := (hN.keep HN0.out) p hp
  have hop : (t.getD p default).op = 8 := e
  rw [hop] at k0
  have p0 : (0 : Int) ≤ (p : Int) := by omega
  have p1 : (p : Int) < (t.length : Int) := by omega
  have HBl := Lib.hid (fun (w' : World) (hb : Below w.heap.size w w') => rblT_any t hl b o cap p hcap hT w' (hN.keep hb))
  rw [e, hc] at HBl
  have HPl : Hid (plL t p 2 = [((plA t (p + 1) 0 : Nat) : Int), ((plA t (p + 1) 1 : Nat) : Int)]) := Lib.hid rfl
  rw [HPl.out] at HBl
  generalize t.getD p default = nd at *
  obtain ⟨q0, qa, qb, qn, qd⟩ := nd
  dsimp only at k0 k1 k2 k3 k4
  have HS := Lib.hid (RvS.new w 8 qa qb qn qd)
  have n0 := HS.out.n0
  have o1 : (8 == 1) = false := beq_false_of_ne (by omega)
  have o2 : (8 == 2) = false := beq_false_of_ne (by omega)
  have HA := Lib.hid hA
  clear hA
  have HB := Lib.hid hB
  clear hB
  have HLm := Lib.hid (show an.natAbs < 2 ^ 400 ∧ ad.natAbs < 2 ^ 400 ∧ ad ≠ 0 ∧ bn.natAbs < 2 ^ 400 ∧ bd.natAbs < 2 ^ 400 ∧ bd ≠ 0 from ⟨la1, la2, la3, lb1, lb2, lb3⟩)
  have HOa := Lib.hid (fun w' => rof_any an ad w' la4.1 la4.2 la5.1 la5.2)
  have HOb := Lib.hid (fun w' => rof_any bn bd w' lb4.1 lb4.2 lb5.1 lb5.2)
  clear la1 la2 la3 la4 la5 lb1 lb2 lb3 lb4 lb5
  have HRs := Lib.hid hr
  clear hr
  clear hN hop e hT hc
  generalize plA t (p + 1) 0 = pa at *
  generalize plA t (p + 1) 1 = pb at *
  go_enter Tryz.func9, Tryz.ntmps9
  go_wp2_with fail
  generalize (w.alloc (.cells #[.int .i64 0, .int .i64 0] 29)).alloc (.cells #[.int .i64 8, .int .i64 qa, .int .i64 qb, .int .i64 qn, .int .i64 qd] 47) = W0 at *
  refine (HBl.out _ HS.out.bel).mono ?_
  rintro e w1 ⟨vl, rfl, hown, hb1⟩
  have HO1 := Lib.hid hown
  have HS1 := Lib.hid (HS.out.keep hb1)
  obtain ⟨la, lc, rfl⟩ := own_len hown
  obtain ⟨g, hg0, hg1⟩ : ∃ g, la = some ⟨g, 0, none⟩ ∧ ∀ wx, YtfkaliammmpcfaaGreatDoor.Own wx W0.heap.size (.slice la 2 lc) [((pa : Nat) : Int), ((pb : Nat) : Int)] → wx.cell? ⟨g, 0, none⟩ = some (.int .i64 ((pa : Nat) : Int)) ∧ wx.cell? ⟨g, 1, none⟩ = some (.int .i64 ((pb : Nat) : Int)) := by
    rcases hown.reads with ⟨e, _⟩ | ⟨g, cap', e, _⟩
    · injection e with _ e _
      simp at e
    · injection e with e1 _ _
      refine ⟨g, e1, fun wx hx => ?_⟩
      subst e1
      have hcl := World.ownsRow.cells (g := g) hx rfl
      have a0 := hcl 0 (.int .i64 ((pa : Nat) : Int)) rfl
      have a1 := hcl 1 (.int .i64 ((pb : Nat) : Int)) rfl
      rw [Go.WideShapes.add_plain, Nat.zero_add] at a0 a1
      exact ⟨a0, a1⟩
  subst hg0
  have HG := Lib.hid hg1
  have g0 := (hg1 _ hown).1
  clear hown hb1 hg1 HS n0 HBl HPl
  go_wp2_with fail
  refine (HA.out _ HS1.out.bel).mono ?_
  rintro e w2 ⟨rfl, hb2⟩
  have HU3 := Lib.hid (RvU.new (HS1.out.keep hb2) (Nat.le_refl _) an ad)
  have HO3 := Lib.hid (((HO1.out.grown hb2).grown (newF w2 (.cells #[.int .i64 an, .int .i64 ad] 29))).grown (newF (w2.alloc (.cells #[.int .i64 an, .int .i64 ad] 29)) (.cells #[.int .i64 0, .int .i64 1] 29)))
  have g1 := (HG.out _ HO3.out).2
  clear hb2 g0 HS1 HO1 HA
  go_wp2_with fail
  refine (HB.out _ HU3.out.s.bel).mono ?_
  rintro e w4 ⟨rfl, hb4⟩
  have HU4 := Lib.hid (HU3.out.keep hb4)
  have y0 := HU4.out.y0
  have y1 := HU4.out.y1
  have wz0 := HU4.out.w0'
  have wz1 := HU4.out.w1'
  have HU5 := Lib.hid (HU4.out.set bn bd)
  have x0 := HU5.out.x0
  have x1 := HU5.out.x1
  clear hb4 g1 HO3 HB HU3 HU4 HG
  go_wp2_with fail
  refine (HOa.out _).mono ?_
  rintro e w6 ⟨⟨vx, rfl, hx⟩, hb6⟩
  obtain ⟨xs1, xa1, xk1, xc1, xs2, xa2, xk2, xc2, rfl, -, -, -, -⟩ := hx.parts
  have HX6 := Lib.hid (hx.keep (newF w6 (.cells #[.bool xs1, .slice xa1 xk1 xc1, .bool xs2, .slice xa2 xk2 xc2] 68)))
  have HU6 := Lib.hid ((HU5.out.keep hb6).keep (newF w6 (.cells #[.bool xs1, .slice xa1 xk1 xc1, .bool xs2, .slice xa2 xk2 xc2] 68)))
  have HP6 := Lib.hid (BxS.new w6 (.bool xs1) (.slice xa1 xk1 xc1) (.bool xs2) (.slice xa2 xk2 xc2))
  clear hx hb6 x0 x1 y0 y1 wz0 wz1 HU5 HOa
  have y0 := HU6.out.y0
  have y1 := HU6.out.y1
  go_wp2_with fail
  refine (HOb.out _).mono ?_
  rintro e w7 ⟨⟨vy, rfl, hy⟩, hb7⟩
  obtain ⟨ys1, ya1, yk1, yc1, ys2, ya2, yk2, yc2, rfl, -, -, -, -⟩ := hy.parts
  have HY7 := Lib.hid (hy.keep (newF w7 (.cells #[.bool ys1, .slice ya1 yk1 yc1, .bool ys2, .slice ya2 yk2 yc2] 68)))
  have HX7 := Lib.hid ((HX6.out.keep hb7).keep (newF w7 (.cells #[.bool ys1, .slice ya1 yk1 yc1, .bool ys2, .slice ya2 yk2 yc2] 68)))
  have HU7 := Lib.hid ((HU6.out.keep hb7).keep (newF w7 (.cells #[.bool ys1, .slice ya1 yk1 yc1, .bool ys2, .slice ya2 yk2 yc2] 68)))
  have HP7 := Lib.hid ((HP6.out.keep hb7).keep (newF w7 (.cells #[.bool ys1, .slice ya1 yk1 yc1, .bool ys2, .slice ya2 yk2 yc2] 68)))
  have HR7 := Lib.hid (BxS.new w7 (.bool ys1) (.slice ya1 yk1 yc1) (.bool ys2) (.slice ya2 yk2 yc2))
  clear hy hb7 y0 y1 HU6 HX6 HP6 HOb
  obtain ⟨p0, p1, p2, p3⟩ := HP7.out
  obtain ⟨q0, q1, q2, q3⟩ := HR7.out
  have HOr := Lib.hid (rordq_any an ad bn bd _ _ _ HX7.out HY7.out HLm.out.1 HLm.out.2.1 HLm.out.2.2.2.1 HLm.out.2.2.2.2.1)
  generalize hsg : (an * bd - bn * ad).sign = sg at HOr
  have HSg := Lib.hid hsg
  have sg3 := sgn3 hsg
  clear hsg
  go_wp2_with fail
  refine HOr.out.mono ?_
  rintro e w8 ⟨rfl, hb8⟩
  have HU8 := Lib.hid (HU7.out.keep hb8)
  have HX8 := Lib.hid (HX7.out.keep hb8)
  have HY8 := Lib.hid (HY7.out.keep hb8)
  have HP8 := Lib.hid (HP7.out.keep hb8)
  have HR8 := Lib.hid (HR7.out.keep hb8)
  clear hb8 p0 p1 p2 p3 q0 q1 q2 q3 HU7 HX7 HY7 HP7 HR7 HOr
  have n0 := HU8.out.s.n0
  have r0 := HU8.out.s.r0
  have r1 := HU8.out.s.r1
  have z0 := HU8.out.s.z0
  have z1 := HU8.out.s.z1
  rcases sg3 with rfl | rfl | rfl
  · have x0 := HU8.out.x0
    have x1 := HU8.out.x1
    have y0 := HU8.out.y0
    have y1 := HU8.out.y1
    go_wp2_with fail
    exact bodyPost_ret (v := .tuple #[.agg #[.int .i64 bn, .int .i64 bd], .bool true, .int .i64 0]) (by simp [results, Tryz.results9, go_sem, r0, r1]) rfl ⟨by obtain ⟨e1, e2⟩ := HRs.out.1 (by rw [HSg.out]; decide); rw [e1, e2], set2Q HU8.out.s.bel (Nat.le_refl _)⟩
  · have x0 := HU8.out.x0
    have x1 := HU8.out.x1
    have y0 := HU8.out.y0
    have y1 := HU8.out.y1
    go_wp2_with fail
    exact bodyPost_ret (v := .tuple #[.agg #[.int .i64 bn, .int .i64 bd], .bool true, .int .i64 0]) (by simp [results, Tryz.results9, go_sem, r0, r1]) rfl ⟨by obtain ⟨e1, e2⟩ := HRs.out.1 (by rw [HSg.out]; decide); rw [e1, e2], set2Q HU8.out.s.bel (Nat.le_refl _)⟩
  · have x0 := HU8.out.x0
    have x1 := HU8.out.x1
    have y0 := HU8.out.y0
    have y1 := HU8.out.y1
    go_wp2_with fail
    exact bodyPost_ret (v := .tuple #[.agg #[.int .i64 an, .int .i64 ad], .bool true, .int .i64 0]) (by simp [results, Tryz.results9, go_sem, r0, r1]) rfl ⟨by obtain ⟨e1, e2⟩ := HRs.out.2 (by rw [HSg.out]; decide); rw [e1, e2], set2Q HU8.out.s.bel (Nat.le_refl _)⟩

set_option maxRecDepth 100000 in
set_option maxHeartbeats 8000000 in
theorem rv_plus (t : List Nd) (b o cap : Nat) (p : Nat) (hT : TmA t p) (hcap : t.length ≤ cap) (hl : t.length ≤ 1000) (op : Int) (e : opA t p = op) (h4 : 4 ≤ op) (h8 : op ≤ 8) (hc : cnO op = 2) (day : Int) (va vn vc : _) (w : World) (hN : NdA w b o t)
    (ho : op = 4) (an ad : Int) (hA : ∀ w', Below w.heap.size w w' → Calls Tryz.prog 9 #[.slice (some ⟨b, o, none⟩) t.length cap, .int .i64 ((plA t (p + 1) 0 : Nat) : Int), .int .i64 day, .slice va vn vc] w' fun e w'' => e = .returned (.tuple #[.agg #[.int .i64 an, .int .i64 ad], .bool true, .int .i64 0]) ∧ Below w'.heap.size w' w'') (bn bd : Int) (hB : ∀ w', Below w.heap.size w w' → Calls Tryz.prog 9 #[.slice (some ⟨b, o, none⟩) t.length cap, .int .i64 ((plA t (p + 1) 1 : Nat) : Int), .int .i64 day, .slice va vn vc] w' fun e w'' => e = .returned (.tuple #[.agg #[.int .i64 bn, .int .i64 bd], .bool true, .int .i64 0]) ∧ Below w'.heap.size w' w'') (la1 : an.natAbs < 2 ^ 400) (la2 : ad.natAbs < 2 ^ 400) (la3 : ad ≠ 0) (la4 : -9223372036854775808 ≤ an ∧ an ≤ 9223372036854775807) (la5 : -9223372036854775808 ≤ ad ∧ ad ≤ 9223372036854775807) (lb1 : bn.natAbs < 2 ^ 400) (lb2 : bd.natAbs < 2 ^ 400) (lb3 : bd ≠ 0) (lb4 : -9223372036854775808 ≤ bn ∧ bn ≤ 9223372036854775807) (lb5 : -9223372036854775808 ≤ bd ∧ bd ≤ 9223372036854775807) (rn rd re : Int) (rb : Bool) (hq : fitV (rat (an * bd + bn * ad) (ad * bd)) = .tuple #[.agg #[.int .i64 rn, .int .i64 rd], .int .i64 re]) (hre : (re = 0 → rb = true) ∧ (re ≠ 0 → rn = 0 ∧ rd = 0 ∧ rb = false)) :
    Calls Tryz.prog 9 #[.slice (some ⟨b, o, none⟩) t.length cap, .int .i64 (p : Nat), .int .i64 day, .slice va vn vc] w fun e w' => e = .returned (.tuple #[.agg #[.int .i64 rn, .int .i64 rd], .bool rb, .int .i64 re]) ∧ Below w.heap.size w w' := by
  subst ho
  have hp := hT.lt
  have HN0 := Lib.hid (newF w (.cells #[.int .i64 0, .int .i64 0] 29))
  obtain ⟨k0, k1, k2, k3, k4⟩ := (hN.keep HN0.out) p hp
  have hop : (t.getD p default).op = 4 := e
  rw [hop] at k0
  have p0 : (0 : Int) ≤ (p : Int) := by omega
  have p1 : (p : Int) < (t.length : Int) := by omega
  have HBl := Lib.hid (fun (w' : World) (hb : Below w.heap.size w w') => rblT_any t hl b o cap p hcap hT w' (hN.keep hb))
  rw [e, hc] at HBl
  have HPl : Hid (plL t p 2 = [((plA t (p + 1) 0 : Nat) : Int), ((plA t (p + 1) 1 : Nat) : Int)]) := Lib.hid rfl
  rw [HPl.out] at HBl
  generalize t.getD p default = nd at *
  obtain ⟨q0, qa, qb, qn, qd⟩ := nd
  dsimp only at k0 k1 k2 k3 k4
  have HS := Lib.hid (RvS.new w 4 qa qb qn qd)
  have n0 := HS.out.n0
  have o1 : (4 == 1) = false := beq_false_of_ne (by omega)
  have o2 : (4 == 2) = false := beq_false_of_ne (by omega)
  have HA := Lib.hid hA
  clear hA
  have HB := Lib.hid hB
  clear hB
  have HLm := Lib.hid (show an.natAbs < 2 ^ 400 ∧ ad.natAbs < 2 ^ 400 ∧ ad ≠ 0 ∧ bn.natAbs < 2 ^ 400 ∧ bd.natAbs < 2 ^ 400 ∧ bd ≠ 0 from ⟨la1, la2, la3, lb1, lb2, lb3⟩)
  have HOa := Lib.hid (fun w' => rof_any an ad w' la4.1 la4.2 la5.1 la5.2)
  have HOb := Lib.hid (fun w' => rof_any bn bd w' lb4.1 lb4.2 lb5.1 lb5.2)
  clear la1 la2 la3 la4 la5 lb1 lb2 lb3 lb4 lb5
  have HQ := Lib.hid hq
  have HRe := Lib.hid hre
  clear hq hre
  clear hN hop e hT hc
  generalize plA t (p + 1) 0 = pa at *
  generalize plA t (p + 1) 1 = pb at *
  go_enter Tryz.func9, Tryz.ntmps9
  go_wp2_with fail
  generalize (w.alloc (.cells #[.int .i64 0, .int .i64 0] 29)).alloc (.cells #[.int .i64 4, .int .i64 qa, .int .i64 qb, .int .i64 qn, .int .i64 qd] 47) = W0 at *
  refine (HBl.out _ HS.out.bel).mono ?_
  rintro e w1 ⟨vl, rfl, hown, hb1⟩
  have HO1 := Lib.hid hown
  have HS1 := Lib.hid (HS.out.keep hb1)
  obtain ⟨la, lc, rfl⟩ := own_len hown
  obtain ⟨g, hg0, hg1⟩ : ∃ g, la = some ⟨g, 0, none⟩ ∧ ∀ wx, YtfkaliammmpcfaaGreatDoor.Own wx W0.heap.size (.slice la 2 lc) [((pa : Nat) : Int), ((pb : Nat) : Int)] → wx.cell? ⟨g, 0, none⟩ = some (.int .i64 ((pa : Nat) : Int)) ∧ wx.cell? ⟨g, 1, none⟩ = some (.int .i64 ((pb : Nat) : Int)) := by
    rcases hown.reads with ⟨e, _⟩ | ⟨g, cap', e, _⟩
    · injection e with _ e _
      simp at e
    · injection e with e1 _ _
      refine ⟨g, e1, fun wx hx => ?_⟩
      subst e1
      have hcl := World.ownsRow.cells (g := g) hx rfl
      have a0 := hcl 0 (.int .i64 ((pa : Nat) : Int)) rfl
      have a1 := hcl 1 (.int .i64 ((pb : Nat) : Int)) rfl
      rw [Go.WideShapes.add_plain, Nat.zero_add] at a0 a1
      exact ⟨a0, a1⟩
  subst hg0
  have HG := Lib.hid hg1
  have g0 := (hg1 _ hown).1
  clear hown hb1 hg1 HS n0 HBl HPl
  go_wp2_with fail
  refine (HA.out _ HS1.out.bel).mono ?_
  rintro e w2 ⟨rfl, hb2⟩
  have HU3 := Lib.hid (RvU.new (HS1.out.keep hb2) (Nat.le_refl _) an ad)
  have HO3 := Lib.hid (((HO1.out.grown hb2).grown (newF w2 (.cells #[.int .i64 an, .int .i64 ad] 29))).grown (newF (w2.alloc (.cells #[.int .i64 an, .int .i64 ad] 29)) (.cells #[.int .i64 0, .int .i64 1] 29)))
  have g1 := (HG.out _ HO3.out).2
  clear hb2 g0 HS1 HO1 HA
  go_wp2_with fail
  refine (HB.out _ HU3.out.s.bel).mono ?_
  rintro e w4 ⟨rfl, hb4⟩
  have HU4 := Lib.hid (HU3.out.keep hb4)
  have y0 := HU4.out.y0
  have y1 := HU4.out.y1
  have wz0 := HU4.out.w0'
  have wz1 := HU4.out.w1'
  have HU5 := Lib.hid (HU4.out.set bn bd)
  have x0 := HU5.out.x0
  have x1 := HU5.out.x1
  clear hb4 g1 HO3 HB HU3 HU4 HG
  go_wp2_with fail
  refine (HOa.out _).mono ?_
  rintro e w6 ⟨⟨vx, rfl, hx⟩, hb6⟩
  obtain ⟨xs1, xa1, xk1, xc1, xs2, xa2, xk2, xc2, rfl, -, -, -, -⟩ := hx.parts
  have HX6 := Lib.hid (hx.keep (newF w6 (.cells #[.bool xs1, .slice xa1 xk1 xc1, .bool xs2, .slice xa2 xk2 xc2] 68)))
  have HU6 := Lib.hid ((HU5.out.keep hb6).keep (newF w6 (.cells #[.bool xs1, .slice xa1 xk1 xc1, .bool xs2, .slice xa2 xk2 xc2] 68)))
  have HP6 := Lib.hid (BxS.new w6 (.bool xs1) (.slice xa1 xk1 xc1) (.bool xs2) (.slice xa2 xk2 xc2))
  clear hx hb6 x0 x1 y0 y1 wz0 wz1 HU5 HOa
  have y0 := HU6.out.y0
  have y1 := HU6.out.y1
  go_wp2_with fail
  refine (HOb.out _).mono ?_
  rintro e w7 ⟨⟨vy, rfl, hy⟩, hb7⟩
  obtain ⟨ys1, ya1, yk1, yc1, ys2, ya2, yk2, yc2, rfl, -, -, -, -⟩ := hy.parts
  have HY7 := Lib.hid (hy.keep (newF w7 (.cells #[.bool ys1, .slice ya1 yk1 yc1, .bool ys2, .slice ya2 yk2 yc2] 68)))
  have HX7 := Lib.hid ((HX6.out.keep hb7).keep (newF w7 (.cells #[.bool ys1, .slice ya1 yk1 yc1, .bool ys2, .slice ya2 yk2 yc2] 68)))
  have HU7 := Lib.hid ((HU6.out.keep hb7).keep (newF w7 (.cells #[.bool ys1, .slice ya1 yk1 yc1, .bool ys2, .slice ya2 yk2 yc2] 68)))
  have HP7 := Lib.hid ((HP6.out.keep hb7).keep (newF w7 (.cells #[.bool ys1, .slice ya1 yk1 yc1, .bool ys2, .slice ya2 yk2 yc2] 68)))
  have HR7 := Lib.hid (BxS.new w7 (.bool ys1) (.slice ya1 yk1 yc1) (.bool ys2) (.slice ya2 yk2 yc2))
  clear hy hb7 y0 y1 HU6 HX6 HP6 HOb
  obtain ⟨p0, p1, p2, p3⟩ := HP7.out
  obtain ⟨q0, q1, q2, q3⟩ := HR7.out
  have HOr := Lib.hid (rordq_any an ad bn bd _ _ _ HX7.out HY7.out HLm.out.1 HLm.out.2.1 HLm.out.2.2.2.1 HLm.out.2.2.2.2.1)
  generalize hsg : (an * bd - bn * ad).sign = sg at HOr
  have HSg := Lib.hid hsg
  have sg3 := sgn3 hsg
  clear hsg
  go_wp2_with fail
  refine HOr.out.mono ?_
  rintro e w8 ⟨rfl, hb8⟩
  have HU8 := Lib.hid (HU7.out.keep hb8)
  have HX8 := Lib.hid (HX7.out.keep hb8)
  have HY8 := Lib.hid (HY7.out.keep hb8)
  have HP8 := Lib.hid (HP7.out.keep hb8)
  have HR8 := Lib.hid (HR7.out.keep hb8)
  clear hb8 p0 p1 p2 p3 q0 q1 q2 q3 HU7 HX7 HY7 HP7 HR7 HOr
  have n0 := HU8.out.s.n0
  have r0 := HU8.out.s.r0
  have r1 := HU8.out.s.r1
  have z0 := HU8.out.s.z0
  have z1 := HU8.out.s.z1
  have HAd := Lib.hid (raddq_any an ad bn bd _ _ w8 HX8.out HY8.out HLm.out.1 HLm.out.2.1 HLm.out.2.2.2.1 HLm.out.2.2.2.2.1)
  obtain ⟨p0, p1, p2, p3⟩ := HP8.out
  obtain ⟨q0, q1, q2, q3⟩ := HR8.out
  go_wp2_with fail
  refine HAd.out.mono ?_
  rintro e w9 ⟨⟨vz, rfl, hz⟩, hb9⟩
  obtain ⟨zs1, za1, zk1, zc1, zs2, za2, zk2, zc2, rfl, -, -, -, -⟩ := hz.parts
  have hbx := onF hb9 (newF w9 (.cells #[.bool zs1, .slice za1 zk1 zc1, .bool zs2, .slice za2 zk2 zc2] 68))
  have HU9 := Lib.hid (HU8.out.keep hbx)
  have HX9 := Lib.hid (HX8.out.keep hbx)
  have HY9 := Lib.hid (HY8.out.keep hbx)
  have HP9 := Lib.hid (HP8.out.keep hbx)
  have HR9 := Lib.hid (HR8.out.keep hbx)
  have HZ9 := Lib.hid (hz.keep (newF w9 (.cells #[.bool zs1, .slice za1 zk1 zc1, .bool zs2, .slice za2 zk2 zc2] 68)))
  have HT9 := Lib.hid (BxS.new w9 (.bool zs1) (.slice za1 zk1 zc1) (.bool zs2) (.slice za2 zk2 zc2))
  have HF9 : Hid (∀ i, (w9.alloc (.cells #[.bool zs1, .slice za1 zk1 zc1, .bool zs2, .slice za2 zk2 zc2] 68)).frozen? ⟨w9.heap.size, i, none⟩ = false) := Lib.hid (fun i => World.frozen?_alloc_at _ _ _ _ rfl)
  have HYl : Hid (w2.heap.size + 1 < w9.heap.size) := Lib.hid (Nat.lt_of_lt_of_le (ltF HU8.out.y0) hb9.size)
  clear hz hb9 hbx p0 p1 p2 p3 q0 q1 q2 q3 n0 r0 r1 z0 z1 HU8 HX8 HY8 HP8 HR8 HAd HSg sg3
  have n0 := HU9.out.s.n0
  obtain ⟨s0, s1, s2, s3⟩ := HT9.out
  have HRt := Lib.hid (rratio_any (an * bd + bn * ad) (ad * bd) _ _ HZ9.out (by have := HLm.out; exact Int.mul_ne_zero this.2.2.1 this.2.2.2.2.2) (l9t (k := 400) (m := 900) (by decide) HLm.out.1 HLm.out.2.2.2.2.1 HLm.out.2.2.2.1 HLm.out.2.1) (l8t (k := 400) (m := 900) (by decide) HLm.out.2.1 HLm.out.2.2.2.2.1))
  rw [HQ.out] at HRt
  go_wp2_with fail
  refine HRt.out.mono ?_
  rintro e wt ⟨rfl, hbt⟩
  have HUt := Lib.hid ((HU9.out.keep hbt).keep (newF wt (.cells #[.int .i64 rn, .int .i64 rd] 29)))
  have r0 := HUt.out.s.r0
  have r1 := HUt.out.s.r1
  have z0 := HUt.out.s.z0
  have z1 := HUt.out.s.z1
  clear hbt s0 s1 s2 s3 HRt
  by_cases hre : re = 0
  · have HRb := Lib.hid (HRe.out.1 hre)
    subst hre
    go_wp2_with fail
    exact bodyPost_ret (v := .tuple #[.agg #[.int .i64 rn, .int .i64 rd], .bool true, .int .i64 0]) (by simp [results, Tryz.results9, go_sem, r0, r1]) rfl ⟨by rw [HRb.out], set2Q HUt.out.s.bel (Nat.le_refl _)⟩
  · have HRb := Lib.hid (HRe.out.2 hre)
    have re1 : (re != 0) = true := bne_iff_ne.2 hre
    clear hre
    go_wp2_with fail
    exact bodyPost_ret (v := .tuple #[.agg #[.int .i64 0, .int .i64 0], .bool false, .int .i64 re]) (by simp [results, Tryz.results9, go_sem, r0, r1]) rfl ⟨by obtain ⟨e1, e2, e3⟩ := HRb.out; rw [e1, e2, e3], set2Q HUt.out.s.bel (Nat.le_refl _)⟩

set_option maxRecDepth 100000 in
set_option maxHeartbeats 8000000 in
theorem rv_times (t : List Nd) (b o cap : Nat) (p : Nat) (hT : TmA t p) (hcap : t.length ≤ cap) (hl : t.length ≤ 1000) (op : Int) (e : opA t p = op) (h4 : 4 ≤ op) (h8 : op ≤ 8) (hc : cnO op = 2) (day : Int) (va vn vc : _) (w : World) (hN : NdA w b o t)
    (ho : op = 6) (an ad : Int) (hA : ∀ w', Below w.heap.size w w' → Calls Tryz.prog 9 #[.slice (some ⟨b, o, none⟩) t.length cap, .int .i64 ((plA t (p + 1) 0 : Nat) : Int), .int .i64 day, .slice va vn vc] w' fun e w'' => e = .returned (.tuple #[.agg #[.int .i64 an, .int .i64 ad], .bool true, .int .i64 0]) ∧ Below w'.heap.size w' w'') (bn bd : Int) (hB : ∀ w', Below w.heap.size w w' → Calls Tryz.prog 9 #[.slice (some ⟨b, o, none⟩) t.length cap, .int .i64 ((plA t (p + 1) 1 : Nat) : Int), .int .i64 day, .slice va vn vc] w' fun e w'' => e = .returned (.tuple #[.agg #[.int .i64 bn, .int .i64 bd], .bool true, .int .i64 0]) ∧ Below w'.heap.size w' w'') (la1 : an.natAbs < 2 ^ 400) (la2 : ad.natAbs < 2 ^ 400) (la3 : ad ≠ 0) (la4 : -9223372036854775808 ≤ an ∧ an ≤ 9223372036854775807) (la5 : -9223372036854775808 ≤ ad ∧ ad ≤ 9223372036854775807) (lb1 : bn.natAbs < 2 ^ 400) (lb2 : bd.natAbs < 2 ^ 400) (lb3 : bd ≠ 0) (lb4 : -9223372036854775808 ≤ bn ∧ bn ≤ 9223372036854775807) (lb5 : -9223372036854775808 ≤ bd ∧ bd ≤ 9223372036854775807) (rn rd re : Int) (rb : Bool) (hq : fitV (rat (an * bn) (ad * bd)) = .tuple #[.agg #[.int .i64 rn, .int .i64 rd], .int .i64 re]) (hre : (re = 0 → rb = true) ∧ (re ≠ 0 → rn = 0 ∧ rd = 0 ∧ rb = false)) :
    Calls Tryz.prog 9 #[.slice (some ⟨b, o, none⟩) t.length cap, .int .i64 (p : Nat), .int .i64 day, .slice va vn vc] w fun e w' => e = .returned (.tuple #[.agg #[.int .i64 rn, .int .i64 rd], .bool rb, .int .i64 re]) ∧ Below w.heap.size w w' := by
  subst ho
  have hp := hT.lt
  have HN0 := Lib.hid (newF w (.cells #[.int .i64 0, .int .i64 0] 29))
  obtain ⟨k0, k1, k2, k3, k4⟩ := (hN.keep HN0.out) p hp
  have hop : (t.getD p default).op = 6 := e
  rw [hop] at k0
  have p0 : (0 : Int) ≤ (p : Int) := by omega
  have p1 : (p : Int) < (t.length : Int) := by omega
  have HBl := Lib.hid (fun (w' : World) (hb : Below w.heap.size w w') => rblT_any t hl b o cap p hcap hT w' (hN.keep hb))
  rw [e, hc] at HBl
  have HPl : Hid (plL t p 2 = [((plA t (p + 1) 0 : Nat) : Int), ((plA t (p + 1) 1 : Nat) : Int)]) := Lib.hid rfl
  rw [HPl.out] at HBl
  generalize t.getD p default = nd at *
  obtain ⟨q0, qa, qb, qn, qd⟩ := nd
  dsimp only at k0 k1 k2 k3 k4
  have HS := Lib.hid (RvS.new w 6 qa qb qn qd)
  have n0 := HS.out.n0
  have o1 : (6 == 1) = false := beq_false_of_ne (by omega)
  have o2 : (6 == 2) = false := beq_false_of_ne (by omega)
  have HA := Lib.hid hA
  clear hA
  have HB := Lib.hid hB
  clear hB
  have HLm := Lib.hid (show an.natAbs < 2 ^ 400 ∧ ad.natAbs < 2 ^ 400 ∧ ad ≠ 0 ∧ bn.natAbs < 2 ^ 400 ∧ bd.natAbs < 2 ^ 400 ∧ bd ≠ 0 from ⟨la1, la2, la3, lb1, lb2, lb3⟩)
  have HOa := Lib.hid (fun w' => rof_any an ad w' la4.1 la4.2 la5.1 la5.2)
  have HOb := Lib.hid (fun w' => rof_any bn bd w' lb4.1 lb4.2 lb5.1 lb5.2)
  clear la1 la2 la3 la4 la5 lb1 lb2 lb3 lb4 lb5
  have HQ := Lib.hid hq
  have HRe := Lib.hid hre
  clear hq hre
  clear hN hop e hT hc
  generalize plA t (p + 1) 0 = pa at *
  generalize plA t (p + 1) 1 = pb at *
  go_enter Tryz.func9, Tryz.ntmps9
  go_wp2_with fail
  generalize (w.alloc (.cells #[.int .i64 0, .int .i64 0] 29)).alloc (.cells #[.int .i64 6, .int .i64 qa, .int .i64 qb, .int .i64 qn, .int .i64 qd] 47) = W0 at *
  refine (HBl.out _ HS.out.bel).mono ?_
  rintro e w1 ⟨vl, rfl, hown, hb1⟩
  have HO1 := Lib.hid hown
  have HS1 := Lib.hid (HS.out.keep hb1)
  obtain ⟨la, lc, rfl⟩ := own_len hown
  obtain ⟨g, hg0, hg1⟩ : ∃ g, la = some ⟨g, 0, none⟩ ∧ ∀ wx, YtfkaliammmpcfaaGreatDoor.Own wx W0.heap.size (.slice la 2 lc) [((pa : Nat) : Int), ((pb : Nat) : Int)] → wx.cell? ⟨g, 0, none⟩ = some (.int .i64 ((pa : Nat) : Int)) ∧ wx.cell? ⟨g, 1, none⟩ = some (.int .i64 ((pb : Nat) : Int)) := by
    rcases hown.reads with ⟨e, _⟩ | ⟨g, cap', e, _⟩
    · injection e with _ e _
      simp at e
    · injection e with e1 _ _
      refine ⟨g, e1, fun wx hx => ?_⟩
      subst e1
      have hcl := World.ownsRow.cells (g := g) hx rfl
      have a0 := hcl 0 (.int .i64 ((pa : Nat) : Int)) rfl
      have a1 := hcl 1 (.int .i64 ((pb : Nat) : Int)) rfl
      rw [Go.WideShapes.add_plain, Nat.zero_add] at a0 a1
      exact ⟨a0, a1⟩
  subst hg0
  have HG := Lib.hid hg1
  have g0 := (hg1 _ hown).1
  clear hown hb1 hg1 HS n0 HBl HPl
  go_wp2_with fail
  refine (HA.out _ HS1.out.bel).mono ?_
  rintro e w2 ⟨rfl, hb2⟩
  have HU3 := Lib.hid (RvU.new (HS1.out.keep hb2) (Nat.le_refl _) an ad)
  have HO3 := Lib.hid (((HO1.out.grown hb2).grown (newF w2 (.cells #[.int .i64 an, .int .i64 ad] 29))).grown (newF (w2.alloc (.cells #[.int .i64 an, .int .i64 ad] 29)) (.cells #[.int .i64 0, .int .i64 1] 29)))
  have g1 := (HG.out _ HO3.out).2
  clear hb2 g0 HS1 HO1 HA
  go_wp2_with fail
  refine (HB.out _ HU3.out.s.bel).mono ?_
  rintro e w4 ⟨rfl, hb4⟩
  have HU4 := Lib.hid (HU3.out.keep hb4)
  have y0 := HU4.out.y0
  have y1 := HU4.out.y1
  have wz0 := HU4.out.w0'
  have wz1 := HU4.out.w1'
  have HU5 := Lib.hid (HU4.out.set bn bd)
  have x0 := HU5.out.x0
  have x1 := HU5.out.x1
  clear hb4 g1 HO3 HB HU3 HU4 HG
  go_wp2_with fail
  refine (HOa.out _).mono ?_
  rintro e w6 ⟨⟨vx, rfl, hx⟩, hb6⟩
  obtain ⟨xs1, xa1, xk1, xc1, xs2, xa2, xk2, xc2, rfl, -, -, -, -⟩ := hx.parts
  have HX6 := Lib.hid (hx.keep (newF w6 (.cells #[.bool xs1, .slice xa1 xk1 xc1, .bool xs2, .slice xa2 xk2 xc2] 68)))
  have HU6 := Lib.hid ((HU5.out.keep hb6).keep (newF w6 (.cells #[.bool xs1, .slice xa1 xk1 xc1, .bool xs2, .slice xa2 xk2 xc2] 68)))
  have HP6 := Lib.hid (BxS.new w6 (.bool xs1) (.slice xa1 xk1 xc1) (.bool xs2) (.slice xa2 xk2 xc2))
  clear hx hb6 x0 x1 y0 y1 wz0 wz1 HU5 HOa
  have y0 := HU6.out.y0
  have y1 := HU6.out.y1
  go_wp2_with fail
  refine (HOb.out _).mono ?_
  rintro e w7 ⟨⟨vy, rfl, hy⟩, hb7⟩
  obtain ⟨ys1, ya1, yk1, yc1, ys2, ya2, yk2, yc2, rfl, -, -, -, -⟩ := hy.parts
  have HY7 := Lib.hid (hy.keep (newF w7 (.cells #[.bool ys1, .slice ya1 yk1 yc1, .bool ys2, .slice ya2 yk2 yc2] 68)))
  have HX7 := Lib.hid ((HX6.out.keep hb7).keep (newF w7 (.cells #[.bool ys1, .slice ya1 yk1 yc1, .bool ys2, .slice ya2 yk2 yc2] 68)))
  have HU7 := Lib.hid ((HU6.out.keep hb7).keep (newF w7 (.cells #[.bool ys1, .slice ya1 yk1 yc1, .bool ys2, .slice ya2 yk2 yc2] 68)))
  have HP7 := Lib.hid ((HP6.out.keep hb7).keep (newF w7 (.cells #[.bool ys1, .slice ya1 yk1 yc1, .bool ys2, .slice ya2 yk2 yc2] 68)))
  have HR7 := Lib.hid (BxS.new w7 (.bool ys1) (.slice ya1 yk1 yc1) (.bool ys2) (.slice ya2 yk2 yc2))
  clear hy hb7 y0 y1 HU6 HX6 HP6 HOb
  obtain ⟨p0, p1, p2, p3⟩ := HP7.out
  obtain ⟨q0, q1, q2, q3⟩ := HR7.out
  have HOr := Lib.hid (rordq_any an ad bn bd _ _ _ HX7.out HY7.out HLm.out.1 HLm.out.2.1 HLm.out.2.2.2.1 HLm.out.2.2.2.2.1)
  generalize hsg : (an * bd - bn * ad).sign = sg at HOr
  have HSg := Lib.hid hsg
  have sg3 := sgn3 hsg
  clear hsg
  go_wp2_with fail
  refine HOr.out.mono ?_
  rintro e w8 ⟨rfl, hb8⟩
  have HU8 := Lib.hid (HU7.out.keep hb8)
  have HX8 := Lib.hid (HX7.out.keep hb8)
  have HY8 := Lib.hid (HY7.out.keep hb8)
  have HP8 := Lib.hid (HP7.out.keep hb8)
  have HR8 := Lib.hid (HR7.out.keep hb8)
  clear hb8 p0 p1 p2 p3 q0 q1 q2 q3 HU7 HX7 HY7 HP7 HR7 HOr
  have n0 := HU8.out.s.n0
  have r0 := HU8.out.s.r0
  have r1 := HU8.out.s.r1
  have z0 := HU8.out.s.z0
  have z1 := HU8.out.s.z1
  have HAd := Lib.hid (raddq_any an ad bn bd _ _ w8 HX8.out HY8.out HLm.out.1 HLm.out.2.1 HLm.out.2.2.2.1 HLm.out.2.2.2.2.1)
  obtain ⟨p0, p1, p2, p3⟩ := HP8.out
  obtain ⟨q0, q1, q2, q3⟩ := HR8.out
  go_wp2_with fail
  refine HAd.out.mono ?_
  rintro e w9 ⟨⟨vz, rfl, hz⟩, hb9⟩
  obtain ⟨zs1, za1, zk1, zc1, zs2, za2, zk2, zc2, rfl, -, -, -, -⟩ := hz.parts
  have hbx := onF hb9 (newF w9 (.cells #[.bool zs1, .slice za1 zk1 zc1, .bool zs2, .slice za2 zk2 zc2] 68))
  have HU9 := Lib.hid (HU8.out.keep hbx)
  have HX9 := Lib.hid (HX8.out.keep hbx)
  have HY9 := Lib.hid (HY8.out.keep hbx)
  have HP9 := Lib.hid (HP8.out.keep hbx)
  have HR9 := Lib.hid (HR8.out.keep hbx)
  have HZ9 := Lib.hid (hz.keep (newF w9 (.cells #[.bool zs1, .slice za1 zk1 zc1, .bool zs2, .slice za2 zk2 zc2] 68)))
  have HT9 := Lib.hid (BxS.new w9 (.bool zs1) (.slice za1 zk1 zc1) (.bool zs2) (.slice za2 zk2 zc2))
  have HF9 : Hid (∀ i, (w9.alloc (.cells #[.bool zs1, .slice za1 zk1 zc1, .bool zs2, .slice za2 zk2 zc2] 68)).frozen? ⟨w9.heap.size, i, none⟩ = false) := Lib.hid (fun i => World.frozen?_alloc_at _ _ _ _ rfl)
  have HYl : Hid (w2.heap.size + 1 < w9.heap.size) := Lib.hid (Nat.lt_of_lt_of_le (ltF HU8.out.y0) hb9.size)
  clear hz hb9 hbx p0 p1 p2 p3 q0 q1 q2 q3 n0 r0 r1 z0 z1 HU8 HX8 HY8 HP8 HR8 HAd HSg sg3
  have n0 := HU9.out.s.n0
  obtain ⟨s0, s1, s2, s3⟩ := HT9.out
  clear s0 s1 s2 s3
  have HMu := Lib.hid (rmulq_any an ad bn bd _ _ _ HX9.out HY9.out HLm.out.1 HLm.out.2.1 HLm.out.2.2.2.1 HLm.out.2.2.2.2.1)
  obtain ⟨p0, p1, p2, p3⟩ := HP9.out
  obtain ⟨q0, q1, q2, q3⟩ := HR9.out
  go_wp2_with fail
  refine HMu.out.mono ?_
  rintro e w10 ⟨⟨vm, rfl, hm⟩, hb10⟩
  obtain ⟨ms1, ma1, mk1, mc1, ms2, ma2, mk2, mc2, rfl, hm1, hm2, -, -⟩ := hm.parts
  have HT10 := HT9.out.keep hb10
  have f0 := (hb10.frozen (p := ⟨w9.heap.size, 0, none⟩) (by simp)).trans (HF9.out 0)
  have f1 := (hb10.frozen (p := ⟨w9.heap.size, 1, none⟩) (by simp)).trans (HF9.out 1)
  have f2 := (hb10.frozen (p := ⟨w9.heap.size, 2, none⟩) (by simp)).trans (HF9.out 2)
  have f3 := (hb10.frozen (p := ⟨w9.heap.size, 3, none⟩) (by simp)).trans (HF9.out 3)
  obtain ⟨t0, t1, t2, t3⟩ := HT10
  have HZs : Hid (BigQ ((((w10.setCell ⟨w9.heap.size, 0, none⟩ (.bool ms1)).setCell ⟨w9.heap.size, 1, none⟩ (.slice ma1 mk1 mc1)).setCell ⟨w9.heap.size, 2, none⟩ (.bool ms2)).setCell ⟨w9.heap.size, 3, none⟩ (.slice ma2 mk2 mc2)) (.agg #[.bool ms1, .slice ma1 mk1 mc1, .bool ms2, .slice ma2 mk2 mc2]) (an * bn) (ad * bd)) := Lib.hid (BigQ.of (four_stored hm1 t0 t1 t2 t3 _ _ _ _) (four_stored hm2 t0 t1 t2 t3 _ _ _ _))
  have HUs := Lib.hid ((HU9.out.keep hb10).set4 HYl.out (.bool ms1) (.slice ma1 mk1 mc1) (.bool ms2) (.slice ma2 mk2 mc2))
  obtain ⟨s0, s1, s2, s3⟩ := BxS.set4 (w := w10) ⟨t0, t1, t2, t3⟩ (.bool ms1) (.slice ma1 mk1 mc1) (.bool ms2) (.slice ma2 mk2 mc2)
  clear hm hm1 hm2 hb10 p0 p1 p2 p3 q0 q1 q2 q3 n0
  have n0 := HUs.out.s.n0
  have HRt := Lib.hid (rratio_any (an * bn) (ad * bd) _ _ HZs.out (by have := HLm.out; exact Int.mul_ne_zero this.2.2.1 this.2.2.2.2.2) (l8t (k := 400) (m := 900) (by decide) HLm.out.1 HLm.out.2.2.2.1) (l8t (k := 400) (m := 900) (by decide) HLm.out.2.1 HLm.out.2.2.2.2.1))
  rw [HQ.out] at HRt
  go_wp2_with fail
  refine HRt.out.mono ?_
  rintro e wt ⟨rfl, hbt⟩
  have HUt := Lib.hid ((HUs.out.keep hbt).keep (newF wt (.cells #[.int .i64 rn, .int .i64 rd] 29)))
  have r0 := HUt.out.s.r0
  have r1 := HUt.out.s.r1
  have z0 := HUt.out.s.z0
  have z1 := HUt.out.s.z1
  clear hbt t0 t1 t2 t3 f0 f1 f2 f3 s0 s1 s2 s3 HRt
  by_cases hre : re = 0
  · have HRb := Lib.hid (HRe.out.1 hre)
    subst hre
    go_wp2_with fail
    exact bodyPost_ret (v := .tuple #[.agg #[.int .i64 rn, .int .i64 rd], .bool true, .int .i64 0]) (by simp [results, Tryz.results9, go_sem, r0, r1]) rfl ⟨by rw [HRb.out], set2Q HUt.out.s.bel (Nat.le_refl _)⟩
  · have HRb := Lib.hid (HRe.out.2 hre)
    have re1 : (re != 0) = true := bne_iff_ne.2 hre
    clear hre
    go_wp2_with fail
    exact bodyPost_ret (v := .tuple #[.agg #[.int .i64 0, .int .i64 0], .bool false, .int .i64 re]) (by simp [results, Tryz.results9, go_sem, r0, r1]) rfl ⟨by obtain ⟨e1, e2, e3⟩ := HRb.out; rw [e1, e2, e3], set2Q HUt.out.s.bel (Nat.le_refl _)⟩

set_option maxRecDepth 100000 in
set_option maxHeartbeats 8000000 in
theorem rv_minus (t : List Nd) (b o cap : Nat) (p : Nat) (hT : TmA t p) (hcap : t.length ≤ cap) (hl : t.length ≤ 1000) (op : Int) (e : opA t p = op) (h4 : 4 ≤ op) (h8 : op ≤ 8) (hc : cnO op = 2) (day : Int) (va vn vc : _) (w : World) (hN : NdA w b o t)
    (ho : op = 5) (an ad : Int) (hA : ∀ w', Below w.heap.size w w' → Calls Tryz.prog 9 #[.slice (some ⟨b, o, none⟩) t.length cap, .int .i64 ((plA t (p + 1) 0 : Nat) : Int), .int .i64 day, .slice va vn vc] w' fun e w'' => e = .returned (.tuple #[.agg #[.int .i64 an, .int .i64 ad], .bool true, .int .i64 0]) ∧ Below w'.heap.size w' w'') (bn bd : Int) (hB : ∀ w', Below w.heap.size w w' → Calls Tryz.prog 9 #[.slice (some ⟨b, o, none⟩) t.length cap, .int .i64 ((plA t (p + 1) 1 : Nat) : Int), .int .i64 day, .slice va vn vc] w' fun e w'' => e = .returned (.tuple #[.agg #[.int .i64 bn, .int .i64 bd], .bool true, .int .i64 0]) ∧ Below w'.heap.size w' w'') (la1 : an.natAbs < 2 ^ 400) (la2 : ad.natAbs < 2 ^ 400) (la3 : ad ≠ 0) (la4 : -9223372036854775808 ≤ an ∧ an ≤ 9223372036854775807) (la5 : -9223372036854775808 ≤ ad ∧ ad ≤ 9223372036854775807) (lb1 : bn.natAbs < 2 ^ 400) (lb2 : bd.natAbs < 2 ^ 400) (lb3 : bd ≠ 0) (lb4 : -9223372036854775808 ≤ bn ∧ bn ≤ 9223372036854775807) (lb5 : -9223372036854775808 ≤ bd ∧ bd ≤ 9223372036854775807) (rn rd re : Int) (rb : Bool) (hq : fitV (rat (an * bd + -bn * ad) (ad * bd)) = .tuple #[.agg #[.int .i64 rn, .int .i64 rd], .int .i64 re]) (hre : (re = 0 → rb = true) ∧ (re ≠ 0 → rn = 0 ∧ rd = 0 ∧ rb = false)) :
    Calls Tryz.prog 9 #[.slice (some ⟨b, o, none⟩) t.length cap, .int .i64 (p : Nat), .int .i64 day, .slice va vn vc] w fun e w' => e = .returned (.tuple #[.agg #[.int .i64 rn, .int .i64 rd], .bool rb, .int .i64 re]) ∧ Below w.heap.size w w' := by
  subst ho
  have hp := hT.lt
  have HN0 := Lib.hid (newF w (.cells #[.int .i64 0, .int .i64 0] 29))
  obtain ⟨k0, k1, k2, k3, k4⟩ := (hN.keep HN0.out) p hp
  have hop : (t.getD p default).op = 5 := e
  rw [hop] at k0
  have p0 : (0 : Int) ≤ (p : Int) := by omega
  have p1 : (p : Int) < (t.length : Int) := by omega
  have HBl := Lib.hid (fun (w' : World) (hb : Below w.heap.size w w') => rblT_any t hl b o cap p hcap hT w' (hN.keep hb))
  rw [e, hc] at HBl
  have HPl : Hid (plL t p 2 = [((plA t (p + 1) 0 : Nat) : Int), ((plA t (p + 1) 1 : Nat) : Int)]) := Lib.hid rfl
  rw [HPl.out] at HBl
  generalize t.getD p default = nd at *
  obtain ⟨q0, qa, qb, qn, qd⟩ := nd
  dsimp only at k0 k1 k2 k3 k4
  have HS := Lib.hid (RvS.new w 5 qa qb qn qd)
  have n0 := HS.out.n0
  have o1 : (5 == 1) = false := beq_false_of_ne (by omega)
  have o2 : (5 == 2) = false := beq_false_of_ne (by omega)
  have HA := Lib.hid hA
  clear hA
  have HB := Lib.hid hB
  clear hB
  have HNl : Hid ((-bn).natAbs < 2 ^ 400) := Lib.hid (neg_lt lb1)
  have HLm := Lib.hid (show an.natAbs < 2 ^ 400 ∧ ad.natAbs < 2 ^ 400 ∧ ad ≠ 0 ∧ bn.natAbs < 2 ^ 400 ∧ bd.natAbs < 2 ^ 400 ∧ bd ≠ 0 from ⟨la1, la2, la3, lb1, lb2, lb3⟩)
  have HOa := Lib.hid (fun w' => rof_any an ad w' la4.1 la4.2 la5.1 la5.2)
  have HOb := Lib.hid (fun w' => rof_any bn bd w' lb4.1 lb4.2 lb5.1 lb5.2)
  clear la1 la2 la3 la4 la5 lb1 lb2 lb3 lb4 lb5
  have HQ := Lib.hid hq
  have HRe := Lib.hid hre
  clear hq hre
  clear hN hop e hT hc
  generalize plA t (p + 1) 0 = pa at *
  generalize plA t (p + 1) 1 = pb at *
  go_enter Tryz.func9, Tryz.ntmps9
  go_wp2_with fail
  generalize (w.alloc (.cells #[.int .i64 0, .int .i64 0] 29)).alloc (.cells #[.int .i64 5, .int .i64 qa, .int .i64 qb, .int .i64 qn, .int .i64 qd] 47) = W0 at *
  refine (HBl.out _ HS.out.bel).mono ?_
  rintro e w1 ⟨vl, rfl, hown, hb1⟩
  have HO1 := Lib.hid hown
  have HS1 := Lib.hid (HS.out.keep hb1)
  obtain ⟨la, lc, rfl⟩ := own_len hown
  obtain ⟨g, hg0, hg1⟩ : ∃ g, la = some ⟨g, 0, none⟩ ∧ ∀ wx, YtfkaliammmpcfaaGreatDoor.Own wx W0.heap.size (.slice la 2 lc) [((pa : Nat) : Int), ((pb : Nat) : Int)] → wx.cell? ⟨g, 0, none⟩ = some (.int .i64 ((pa : Nat) : Int)) ∧ wx.cell? ⟨g, 1, none⟩ = some (.int .i64 ((pb : Nat) : Int)) := by
    rcases hown.reads with ⟨e, _⟩ | ⟨g, cap', e, _⟩
    · injection e with _ e _
      simp at e
    · injection e with e1 _ _
      refine ⟨g, e1, fun wx hx => ?_⟩
      subst e1
      have hcl := World.ownsRow.cells (g := g) hx rfl
      have a0 := hcl 0 (.int .i64 ((pa : Nat) : Int)) rfl
      have a1 := hcl 1 (.int .i64 ((pb : Nat) : Int)) rfl
      rw [Go.WideShapes.add_plain, Nat.zero_add] at a0 a1
      exact ⟨a0, a1⟩
  subst hg0
  have HG := Lib.hid hg1
  have g0 := (hg1 _ hown).1
  clear hown hb1 hg1 HS n0 HBl HPl
  go_wp2_with fail
  refine (HA.out _ HS1.out.bel).mono ?_
  rintro e w2 ⟨rfl, hb2⟩
  have HU3 := Lib.hid (RvU.new (HS1.out.keep hb2) (Nat.le_refl _) an ad)
  have HO3 := Lib.hid (((HO1.out.grown hb2).grown (newF w2 (.cells #[.int .i64 an, .int .i64 ad] 29))).grown (newF (w2.alloc (.cells #[.int .i64 an, .int .i64 ad] 29)) (.cells #[.int .i64 0, .int .i64 1] 29)))
  have g1 := (HG.out _ HO3.out).2
  clear hb2 g0 HS1 HO1 HA
  go_wp2_with fail
  refine (HB.out _ HU3.out.s.bel).mono ?_
  rintro e w4 ⟨rfl, hb4⟩
  have HU4 := Lib.hid (HU3.out.keep hb4)
  have y0 := HU4.out.y0
  have y1 := HU4.out.y1
  have wz0 := HU4.out.w0'
  have wz1 := HU4.out.w1'
  have HU5 := Lib.hid (HU4.out.set bn bd)
  have x0 := HU5.out.x0
  have x1 := HU5.out.x1
  clear hb4 g1 HO3 HB HU3 HU4 HG
  go_wp2_with fail
  refine (HOa.out _).mono ?_
  rintro e w6 ⟨⟨vx, rfl, hx⟩, hb6⟩
  obtain ⟨xs1, xa1, xk1, xc1, xs2, xa2, xk2, xc2, rfl, -, -, -, -⟩ := hx.parts
  have HX6 := Lib.hid (hx.keep (newF w6 (.cells #[.bool xs1, .slice xa1 xk1 xc1, .bool xs2, .slice xa2 xk2 xc2] 68)))
  have HU6 := Lib.hid ((HU5.out.keep hb6).keep (newF w6 (.cells #[.bool xs1, .slice xa1 xk1 xc1, .bool xs2, .slice xa2 xk2 xc2] 68)))
  have HP6 := Lib.hid (BxS.new w6 (.bool xs1) (.slice xa1 xk1 xc1) (.bool xs2) (.slice xa2 xk2 xc2))
  clear hx hb6 x0 x1 y0 y1 wz0 wz1 HU5 HOa
  have y0 := HU6.out.y0
  have y1 := HU6.out.y1
  go_wp2_with fail
  refine (HOb.out _).mono ?_
  rintro e w7 ⟨⟨vy, rfl, hy⟩, hb7⟩
  obtain ⟨ys1, ya1, yk1, yc1, ys2, ya2, yk2, yc2, rfl, -, -, -, -⟩ := hy.parts
  have HY7 := Lib.hid (hy.keep (newF w7 (.cells #[.bool ys1, .slice ya1 yk1 yc1, .bool ys2, .slice ya2 yk2 yc2] 68)))
  have HX7 := Lib.hid ((HX6.out.keep hb7).keep (newF w7 (.cells #[.bool ys1, .slice ya1 yk1 yc1, .bool ys2, .slice ya2 yk2 yc2] 68)))
  have HU7 := Lib.hid ((HU6.out.keep hb7).keep (newF w7 (.cells #[.bool ys1, .slice ya1 yk1 yc1, .bool ys2, .slice ya2 yk2 yc2] 68)))
  have HP7 := Lib.hid ((HP6.out.keep hb7).keep (newF w7 (.cells #[.bool ys1, .slice ya1 yk1 yc1, .bool ys2, .slice ya2 yk2 yc2] 68)))
  have HR7 := Lib.hid (BxS.new w7 (.bool ys1) (.slice ya1 yk1 yc1) (.bool ys2) (.slice ya2 yk2 yc2))
  clear hy hb7 y0 y1 HU6 HX6 HP6 HOb
  obtain ⟨p0, p1, p2, p3⟩ := HP7.out
  obtain ⟨q0, q1, q2, q3⟩ := HR7.out
  have HOr := Lib.hid (rordq_any an ad bn bd _ _ _ HX7.out HY7.out HLm.out.1 HLm.out.2.1 HLm.out.2.2.2.1 HLm.out.2.2.2.2.1)
  generalize hsg : (an * bd - bn * ad).sign = sg at HOr
  have HSg := Lib.hid hsg
  have sg3 := sgn3 hsg
  clear hsg
  go_wp2_with fail
  refine HOr.out.mono ?_
  rintro e w8 ⟨rfl, hb8⟩
  have HU8 := Lib.hid (HU7.out.keep hb8)
  have HX8 := Lib.hid (HX7.out.keep hb8)
  have HY8 := Lib.hid (HY7.out.keep hb8)
  have HP8 := Lib.hid (HP7.out.keep hb8)
  have HR8 := Lib.hid (HR7.out.keep hb8)
  clear hb8 p0 p1 p2 p3 q0 q1 q2 q3 HU7 HX7 HY7 HP7 HR7 HOr
  have n0 := HU8.out.s.n0
  have r0 := HU8.out.s.r0
  have r1 := HU8.out.s.r1
  have z0 := HU8.out.s.z0
  have z1 := HU8.out.s.z1
  have HAd := Lib.hid (raddq_any an ad bn bd _ _ w8 HX8.out HY8.out HLm.out.1 HLm.out.2.1 HLm.out.2.2.2.1 HLm.out.2.2.2.2.1)
  obtain ⟨p0, p1, p2, p3⟩ := HP8.out
  obtain ⟨q0, q1, q2, q3⟩ := HR8.out
  go_wp2_with fail
  refine HAd.out.mono ?_
  rintro e w9 ⟨⟨vz, rfl, hz⟩, hb9⟩
  obtain ⟨zs1, za1, zk1, zc1, zs2, za2, zk2, zc2, rfl, -, -, -, -⟩ := hz.parts
  have hbx := onF hb9 (newF w9 (.cells #[.bool zs1, .slice za1 zk1 zc1, .bool zs2, .slice za2 zk2 zc2] 68))
  have HU9 := Lib.hid (HU8.out.keep hbx)
  have HX9 := Lib.hid (HX8.out.keep hbx)
  have HY9 := Lib.hid (HY8.out.keep hbx)
  have HP9 := Lib.hid (HP8.out.keep hbx)
  have HR9 := Lib.hid (HR8.out.keep hbx)
  have HZ9 := Lib.hid (hz.keep (newF w9 (.cells #[.bool zs1, .slice za1 zk1 zc1, .bool zs2, .slice za2 zk2 zc2] 68)))
  have HT9 := Lib.hid (BxS.new w9 (.bool zs1) (.slice za1 zk1 zc1) (.bool zs2) (.slice za2 zk2 zc2))
  have HF9 : Hid (∀ i, (w9.alloc (.cells #[.bool zs1, .slice za1 zk1 zc1, .bool zs2, .slice za2 zk2 zc2] 68)).frozen? ⟨w9.heap.size, i, none⟩ = false) := Lib.hid (fun i => World.frozen?_alloc_at _ _ _ _ rfl)
  have HYl : Hid (w2.heap.size + 1 < w9.heap.size) := Lib.hid (Nat.lt_of_lt_of_le (ltF HU8.out.y0) hb9.size)
  have HPz9 : Hid (w9.heap.size ≠ w6.heap.size ∧ w9.heap.size ≠ w7.heap.size) := Lib.hid ⟨Nat.ne_of_gt (Nat.lt_of_lt_of_le (ltF HP8.out.b0) hb9.size), Nat.ne_of_gt (Nat.lt_of_lt_of_le (ltF HR8.out.b0) hb9.size)⟩
  clear hz hb9 hbx p0 p1 p2 p3 q0 q1 q2 q3 n0 r0 r1 z0 z1 HU8 HX8 HY8 HP8 HR8 HAd HSg sg3
  have n0 := HU9.out.s.n0
  obtain ⟨s0, s1, s2, s3⟩ := HT9.out
  clear s0 s1 s2 s3
  have HPz : Hid (w9.heap.size ≠ w6.heap.size ∧ w9.heap.size ≠ w7.heap.size) := HPz9
  have HBd : Hid (Below (w9.alloc (.cells #[.bool zs1, .slice za1 zk1 zc1, .bool zs2, .slice za2 zk2 zc2] 68)).heap.size (w9.alloc (.cells #[.bool zs1, .slice za1 zk1 zc1, .bool zs2, .slice za2 zk2 zc2] 68)) (w9.alloc (.cells #[.bool zs1, .slice za1 zk1 zc1, .bool zs2, .slice za2 zk2 zc2] 68)).drew) := Lib.hid (Below.drew (Below.refl _ _))
  have HNe := Lib.hid (fun (w' : World) (hb : Below (w9.alloc (.cells #[.bool zs1, .slice za1 zk1 zc1, .bool zs2, .slice za2 zk2 zc2] 68)).heap.size (w9.alloc (.cells #[.bool zs1, .slice za1 zk1 zc1, .bool zs2, .slice za2 zk2 zc2] 68)) w') => rnegq_any bn bd _ w' (HY9.out.keep hb))
  have HAm := Lib.hid (fun (w' : World) (hb : Below (w9.alloc (.cells #[.bool zs1, .slice za1 zk1 zc1, .bool zs2, .slice za2 zk2 zc2] 68)).heap.size (w9.alloc (.cells #[.bool zs1, .slice za1 zk1 zc1, .bool zs2, .slice za2 zk2 zc2] 68)) w') (v' : Value) (hy : BigQ w' v' (-bn) bd) => raddq_any an ad (-bn) bd _ v' w' (HX9.out.keep hb) hy HLm.out.1 HLm.out.2.1 HNl.out HLm.out.2.2.2.2.1)
  obtain ⟨p0, p1, p2, p3⟩ := HP9.out.keep HBd.out
  obtain ⟨q0, q1, q2, q3⟩ := HR9.out.keep HBd.out
  go_upto_region 31 with fail
  go_region_held3 (fun w' => (w'.cell? ⟨w6.heap.size, 0, none⟩ = some (.bool xs1) ∧ w'.cell? ⟨w6.heap.size, 1, none⟩ = some (.slice xa1 xk1 xc1) ∧ w'.cell? ⟨w6.heap.size, 2, none⟩ = some (.bool xs2) ∧ w'.cell? ⟨w6.heap.size, 3, none⟩ = some (.slice xa2 xk2 xc2) ∧ w'.cell? ⟨w7.heap.size, 0, none⟩ = some (.bool ys1) ∧ w'.cell? ⟨w7.heap.size, 1, none⟩ = some (.slice ya1 yk1 yc1) ∧ w'.cell? ⟨w7.heap.size, 2, none⟩ = some (.bool ys2) ∧ w'.cell? ⟨w7.heap.size, 3, none⟩ = some (.slice ya2 yk2 yc2)))
    (first | (with_reducible exact ⟨p0, p1, p2, p3, q0, q1, q2, q3⟩) | (with_reducible exact ⟨(four_other HPz.out.1).trans p0, (four_other HPz.out.1).trans p1, (four_other HPz.out.1).trans p2, (four_other HPz.out.1).trans p3, (four_other HPz.out.2).trans q0, (four_other HPz.out.2).trans q1, (four_other HPz.out.2).trans q2, (four_other HPz.out.2).trans q3⟩))
    (first
      | (go_at_call 23; refine (HAm.out _ HBn.out _ HNg.out).mono ?_; rintro e w10 ⟨⟨vm, rfl, hm⟩, hb10x⟩; have hb10 := onF HBn.out hb10x; clear hb10x p0 p1 p2 p3 q0 q1 q2 q3; obtain ⟨p0, p1, p2, p3⟩ := HP9.out.keep hb10; obtain ⟨q0, q1, q2, q3⟩ := HR9.out.keep hb10; obtain ⟨ms1, ma1, mk1, mc1, ms2, ma2, mk2, mc2, rfl, hm1, hm2, -, -⟩ := hm.parts; have HT10 := HT9.out.keep hb10; have f0 := (hb10.frozen (p := ⟨w9.heap.size, 0, none⟩) (by simp)).trans (HF9.out 0); have f1 := (hb10.frozen (p := ⟨w9.heap.size, 1, none⟩) (by simp)).trans (HF9.out 1); have f2 := (hb10.frozen (p := ⟨w9.heap.size, 2, none⟩) (by simp)).trans (HF9.out 2); have f3 := (hb10.frozen (p := ⟨w9.heap.size, 3, none⟩) (by simp)).trans (HF9.out 3); obtain ⟨t0, t1, t2, t3⟩ := HT10; have HZs : Hid (BigQ ((((w10.setCell ⟨w9.heap.size, 0, none⟩ (.bool ms1)).setCell ⟨w9.heap.size, 1, none⟩ (.slice ma1 mk1 mc1)).setCell ⟨w9.heap.size, 2, none⟩ (.bool ms2)).setCell ⟨w9.heap.size, 3, none⟩ (.slice ma2 mk2 mc2)) (.agg #[.bool ms1, .slice ma1 mk1 mc1, .bool ms2, .slice ma2 mk2 mc2]) (an * bd + -bn * ad) (ad * bd)) := Lib.hid (BigQ.of (four_stored hm1 t0 t1 t2 t3 _ _ _ _) (four_stored hm2 t0 t1 t2 t3 _ _ _ _)); have HUs := Lib.hid ((HU9.out.keep hb10).set4 HYl.out (.bool ms1) (.slice ma1 mk1 mc1) (.bool ms2) (.slice ma2 mk2 mc2)); obtain ⟨s0, s1, s2, s3⟩ := BxS.set4 (w := w10) ⟨t0, t1, t2, t3⟩ (.bool ms1) (.slice ma1 mk1 mc1) (.bool ms2) (.slice ma2 mk2 mc2); clear hm hm1 hm2 hb10 n0; have n0 := HUs.out.s.n0)
      | (go_at_call 24; refine (HNe.out _ HBd.out).mono ?_; rintro e wn ⟨⟨vn', rfl, hn⟩, hbn⟩; obtain ⟨ns1, na1, nk1, nc1, ns2, na2, nk2, nc2, rfl, -, -, -, -⟩ := hn.parts; have HNg := Lib.hid hn; have HBn := Lib.hid (onF HBd.out hbn); clear hn hbn p0 p1 p2 p3 q0 q1 q2 q3; obtain ⟨p0, p1, p2, p3⟩ := HP9.out.keep HBn.out; obtain ⟨q0, q1, q2, q3⟩ := HR9.out.keep HBn.out))
  clear p0 p1 p2 p3 q0 q1 q2 q3 HNe HAm
  have HRt := Lib.hid (rratio_any (an * bd + -bn * ad) (ad * bd) _ _ HZs.out (by have := HLm.out; exact Int.mul_ne_zero this.2.2.1 this.2.2.2.2.2) (l9t (k := 400) (m := 900) (by decide) HLm.out.1 HLm.out.2.2.2.2.1 HNl.out HLm.out.2.1) (l8t (k := 400) (m := 900) (by decide) HLm.out.2.1 HLm.out.2.2.2.2.1))
  rw [HQ.out] at HRt
  go_wp2_with fail
  refine HRt.out.mono ?_
  rintro e wt ⟨rfl, hbt⟩
  have HUt := Lib.hid ((HUs.out.keep hbt).keep (newF wt (.cells #[.int .i64 rn, .int .i64 rd] 29)))
  have r0 := HUt.out.s.r0
  have r1 := HUt.out.s.r1
  have z0 := HUt.out.s.z0
  have z1 := HUt.out.s.z1
  clear hbt t0 t1 t2 t3 f0 f1 f2 f3 s0 s1 s2 s3 HRt
  by_cases hre : re = 0
  · have HRb := Lib.hid (HRe.out.1 hre)
    subst hre
    go_wp2_with fail
    exact bodyPost_ret (v := .tuple #[.agg #[.int .i64 rn, .int .i64 rd], .bool true, .int .i64 0]) (by simp [results, Tryz.results9, go_sem, r0, r1]) rfl ⟨by rw [HRb.out], set2Q HUt.out.s.bel (Nat.le_refl _)⟩
  · have HRb := Lib.hid (HRe.out.2 hre)
    have re1 : (re != 0) = true := bne_iff_ne.2 hre
    clear hre
    go_wp2_with fail
    exact bodyPost_ret (v := .tuple #[.agg #[.int .i64 0, .int .i64 0], .bool false, .int .i64 re]) (by simp [results, Tryz.results9, go_sem, r0, r1]) rfl ⟨by obtain ⟨e1, e2, e3⟩ := HRb.out; rw [e1, e2, e3], set2Q HUt.out.s.bel (Nat.le_refl _)⟩

set_option maxRecDepth 100000 in
set_option maxHeartbeats 8000000 in
theorem rv_nbad (t : List Nd) (b o cap : Nat) (p : Nat) (hT : TmA t p) (hcap : t.length ≤ cap) (hl : t.length ≤ 1000) (op : Int) (e : opA t p = op) (hc : cnO op = 1) (day : Int) (va vn vc : _) (w : World) (hN : NdA w b o t)
     (ho : op = 3) (hA : ∀ w', Below w.heap.size w w' → Calls Tryz.prog 9 #[.slice (some ⟨b, o, none⟩) t.length cap, .int .i64 ((plA t (p + 1) 0 : Nat) : Int), .int .i64 day, .slice va vn vc] w' fun e w'' => e = .returned (.tuple #[.agg #[.int .i64 0, .int .i64 0], .bool false, .int .i64 11]) ∧ Below w'.heap.size w' w'') :
    Calls Tryz.prog 9 #[.slice (some ⟨b, o, none⟩) t.length cap, .int .i64 (p : Nat), .int .i64 day, .slice va vn vc] w fun e w' => e = .returned (.tuple #[.agg #[.int .i64 0, .int .i64 0], .bool false, .int .i64 11]) ∧ Below w.heap.size w w' := by
  subst ho
  have hp := hT.lt
  have HN0 := Lib.hid (newF w (.cells #[.int .i64 0, .int .i64 0] 29))
  obtain ⟨k0, k1, k2, k3, k4⟩ := (hN.keep HN0.out) p hp
  have hop : (t.getD p default).op = 3 := e
  rw [hop] at k0
  have p0 : (0 : Int) ≤ (p : Int) := by omega
  have p1 : (p : Int) < (t.length : Int) := by omega
  have HBl := Lib.hid (fun (w' : World) (hb : Below w.heap.size w w') => rblT_any t hl b o cap p hcap hT w' (hN.keep hb))
  rw [e, hc] at HBl
  have HPl : Hid (plL t p 1 = [((plA t (p + 1) 0 : Nat) : Int)]) := Lib.hid rfl
  rw [HPl.out] at HBl
  generalize t.getD p default = nd at *
  obtain ⟨q0, qa, qb, qn, qd⟩ := nd
  dsimp only at k0 k1 k2 k3 k4
  have HS := Lib.hid (RvS.new w 3 qa qb qn qd)
  have n0 := HS.out.n0
  have o1 : (3 == 1) = false := beq_false_of_ne (by omega)
  have o2 : (3 == 2) = false := beq_false_of_ne (by omega)
  have HA := Lib.hid hA
  clear hA
  clear hN hop e hT hc
  generalize plA t (p + 1) 0 = pa at *
  go_enter Tryz.func9, Tryz.ntmps9
  go_wp2_with fail
  generalize (w.alloc (.cells #[.int .i64 0, .int .i64 0] 29)).alloc (.cells #[.int .i64 3, .int .i64 qa, .int .i64 qb, .int .i64 qn, .int .i64 qd] 47) = W0 at *
  refine (HBl.out _ HS.out.bel).mono ?_
  rintro e w1 ⟨vl, rfl, hown, hb1⟩
  have HO1 := Lib.hid hown
  have HS1 := Lib.hid (HS.out.keep hb1)
  obtain ⟨la, lc, rfl⟩ := own_len hown
  obtain ⟨g, hg0, hg1⟩ : ∃ g, la = some ⟨g, 0, none⟩ ∧ ∀ wx, YtfkaliammmpcfaaGreatDoor.Own wx W0.heap.size (.slice la 1 lc) [((pa : Nat) : Int)] → wx.cell? ⟨g, 0, none⟩ = some (.int .i64 ((pa : Nat) : Int)) := by
    rcases hown.reads with ⟨e, _⟩ | ⟨g, cap', e, _⟩
    · injection e with _ e _
      simp at e
    · injection e with e1 _ _
      refine ⟨g, e1, fun wx hx => ?_⟩
      subst e1
      have hcl := World.ownsRow.cells (g := g) hx rfl
      have a0 := hcl 0 (.int .i64 ((pa : Nat) : Int)) rfl
      rw [Go.WideShapes.add_plain, Nat.zero_add] at a0
      exact a0
  subst hg0
  have HG := Lib.hid hg1
  have g0 := hg1 _ hown
  clear hown hb1 hg1 HS n0 HBl HPl
  go_wp2_with fail
  refine (HA.out _ HS1.out.bel).mono ?_
  rintro e w2 ⟨rfl, hb2⟩
  have HS2 := Lib.hid ((HS1.out.keep hb2).keep (newF w2 (.cells #[.int .i64 0, .int .i64 0] 29)))
  have HO2 := Lib.hid ((HO1.out.grown hb2).grown (newF w2 (.cells #[.int .i64 0, .int .i64 0] 29)))
  clear hb2 g0 HS1 HO1 HA
  have r0 := HS2.out.r0
  have r1 := HS2.out.r1
  have z0 := HS2.out.z0
  have z1 := HS2.out.z1
  go_wp2_with fail
  exact bodyPost_ret (v := .tuple #[.agg #[.int .i64 0, .int .i64 0], .bool false, .int .i64 11]) (by simp [results, Tryz.results9, go_sem, r0, r1]) rfl ⟨rfl, set2Q HS2.out.bel (Nat.le_refl _)⟩

set_option maxRecDepth 100000 in
set_option maxHeartbeats 8000000 in
theorem rv_nunk (t : List Nd) (b o cap : Nat) (p : Nat) (hT : TmA t p) (hcap : t.length ≤ cap) (hl : t.length ≤ 1000) (op : Int) (e : opA t p = op) (hc : cnO op = 1) (day : Int) (va vn vc : _) (w : World) (hN : NdA w b o t)
     (ho : op = 3) (an ad : Int) (hA : ∀ w', Below w.heap.size w w' → Calls Tryz.prog 9 #[.slice (some ⟨b, o, none⟩) t.length cap, .int .i64 ((plA t (p + 1) 0 : Nat) : Int), .int .i64 day, .slice va vn vc] w' fun e w'' => e = .returned (.tuple #[.agg #[.int .i64 an, .int .i64 ad], .bool false, .int .i64 0]) ∧ Below w'.heap.size w' w'') :
    Calls Tryz.prog 9 #[.slice (some ⟨b, o, none⟩) t.length cap, .int .i64 (p : Nat), .int .i64 day, .slice va vn vc] w fun e w' => e = .returned (.tuple #[.agg #[.int .i64 0, .int .i64 0], .bool false, .int .i64 0]) ∧ Below w.heap.size w w' := by
  subst ho
  have hp := hT.lt
  have HN0 := Lib.hid (newF w (.cells #[.int .i64 0, .int .i64 0] 29))
  obtain ⟨k0, k1, k2, k3, k4⟩ := (hN.keep HN0.out) p hp
  have hop : (t.getD p default).op = 3 := e
  rw [hop] at k0
  have p0 : (0 : Int) ≤ (p : Int) := by omega
  have p1 : (p : Int) < (t.length : Int) := by omega
  have HBl := Lib.hid (fun (w' : World) (hb : Below w.heap.size w w') => rblT_any t hl b o cap p hcap hT w' (hN.keep hb))
  rw [e, hc] at HBl
  have HPl : Hid (plL t p 1 = [((plA t (p + 1) 0 : Nat) : Int)]) := Lib.hid rfl
  rw [HPl.out] at HBl
  generalize t.getD p default = nd at *
  obtain ⟨q0, qa, qb, qn, qd⟩ := nd
  dsimp only at k0 k1 k2 k3 k4
  have HS := Lib.hid (RvS.new w 3 qa qb qn qd)
  have n0 := HS.out.n0
  have o1 : (3 == 1) = false := beq_false_of_ne (by omega)
  have o2 : (3 == 2) = false := beq_false_of_ne (by omega)
  have HA := Lib.hid hA
  clear hA
  clear hN hop e hT hc
  generalize plA t (p + 1) 0 = pa at *
  go_enter Tryz.func9, Tryz.ntmps9
  go_wp2_with fail
  generalize (w.alloc (.cells #[.int .i64 0, .int .i64 0] 29)).alloc (.cells #[.int .i64 3, .int .i64 qa, .int .i64 qb, .int .i64 qn, .int .i64 qd] 47) = W0 at *
  refine (HBl.out _ HS.out.bel).mono ?_
  rintro e w1 ⟨vl, rfl, hown, hb1⟩
  have HO1 := Lib.hid hown
  have HS1 := Lib.hid (HS.out.keep hb1)
  obtain ⟨la, lc, rfl⟩ := own_len hown
  obtain ⟨g, hg0, hg1⟩ : ∃ g, la = some ⟨g, 0, none⟩ ∧ ∀ wx, YtfkaliammmpcfaaGreatDoor.Own wx W0.heap.size (.slice la 1 lc) [((pa : Nat) : Int)] → wx.cell? ⟨g, 0, none⟩ = some (.int .i64 ((pa : Nat) : Int)) := by
    rcases hown.reads with ⟨e, _⟩ | ⟨g, cap', e, _⟩
    · injection e with _ e _
      simp at e
    · injection e with e1 _ _
      refine ⟨g, e1, fun wx hx => ?_⟩
      subst e1
      have hcl := World.ownsRow.cells (g := g) hx rfl
      have a0 := hcl 0 (.int .i64 ((pa : Nat) : Int)) rfl
      rw [Go.WideShapes.add_plain, Nat.zero_add] at a0
      exact a0
  subst hg0
  have HG := Lib.hid hg1
  have g0 := hg1 _ hown
  clear hown hb1 hg1 HS n0 HBl HPl
  go_wp2_with fail
  refine (HA.out _ HS1.out.bel).mono ?_
  rintro e w2 ⟨rfl, hb2⟩
  have HU5 := Lib.hid (RvU.new (HS1.out.keep hb2) (Nat.le_refl _) an ad)
  clear hb2 g0 HS1 HO1 HA HG
  have r0 := HU5.out.s.r0
  have r1 := HU5.out.s.r1
  have z0 := HU5.out.s.z0
  have z1 := HU5.out.s.z1
  go_wp2_with fail
  exact bodyPost_ret (v := .tuple #[.agg #[.int .i64 0, .int .i64 0], .bool false, .int .i64 0]) (by simp [results, Tryz.results9, go_sem, r0, r1]) rfl ⟨rfl, set2Q HU5.out.s.bel (Nat.le_refl _)⟩

set_option maxRecDepth 100000 in
set_option maxHeartbeats 8000000 in
theorem rv_neg (t : List Nd) (b o cap : Nat) (p : Nat) (hT : TmA t p) (hcap : t.length ≤ cap) (hl : t.length ≤ 1000) (op : Int) (e : opA t p = op) (hc : cnO op = 1) (day : Int) (va vn vc : _) (w : World) (hN : NdA w b o t)
     (ho : op = 3) (an ad : Int) (hA : ∀ w', Below w.heap.size w w' → Calls Tryz.prog 9 #[.slice (some ⟨b, o, none⟩) t.length cap, .int .i64 ((plA t (p + 1) 0 : Nat) : Int), .int .i64 day, .slice va vn vc] w' fun e w'' => e = .returned (.tuple #[.agg #[.int .i64 an, .int .i64 ad], .bool true, .int .i64 0]) ∧ Below w'.heap.size w' w'') (la1 : an.natAbs < 2 ^ 400) (la2 : ad.natAbs < 2 ^ 400) (la3 : ad ≠ 0) (la4 : -9223372036854775808 ≤ an ∧ an ≤ 9223372036854775807) (la5 : -9223372036854775808 ≤ ad ∧ ad ≤ 9223372036854775807) (rn rd re : Int) (rb : Bool) (hq : fitV (rat (-an) (ad)) = .tuple #[.agg #[.int .i64 rn, .int .i64 rd], .int .i64 re]) (hre : (re = 0 → rb = true) ∧ (re ≠ 0 → rn = 0 ∧ rd = 0 ∧ rb = false)) :
    Calls Tryz.prog 9 #[.slice (some ⟨b, o, none⟩) t.length cap, .int .i64 (p : Nat), .int .i64 day, .slice va vn vc] w fun e w' => e = .returned (.tuple #[.agg #[.int .i64 rn, .int .i64 rd], .bool rb, .int .i64 re]) ∧ Below w.heap.size w w' := by
  subst ho
  have hp := hT.lt
  have HN0 := Lib.hid (newF w (.cells #[.int .i64 0, .int .i64 0] 29))
  obtain ⟨k0, k1, k2, k3, k4⟩ := (hN.keep HN0.out) p hp
  have hop : (t.getD p default).op = 3 := e
  rw [hop] at k0
  have p0 : (0 : Int) ≤ (p : Int) := by omega
  have p1 : (p : Int) < (t.length : Int) := by omega
  have HBl := Lib.hid (fun (w' : World) (hb : Below w.heap.size w w') => rblT_any t hl b o cap p hcap hT w' (hN.keep hb))
  rw [e, hc] at HBl
  have HPl : Hid (plL t p 1 = [((plA t (p + 1) 0 : Nat) : Int)]) := Lib.hid rfl
  rw [HPl.out] at HBl
  generalize t.getD p default = nd at *
  obtain ⟨q0, qa, qb, qn, qd⟩ := nd
  dsimp only at k0 k1 k2 k3 k4
  have HS := Lib.hid (RvS.new w 3 qa qb qn qd)
  have n0 := HS.out.n0
  have o1 : (3 == 1) = false := beq_false_of_ne (by omega)
  have o2 : (3 == 2) = false := beq_false_of_ne (by omega)
  have HA := Lib.hid hA
  clear hA
  have HNl : Hid ((-an).natAbs < 2 ^ 400) := Lib.hid (neg_lt la1)
  have HLm := Lib.hid (show an.natAbs < 2 ^ 400 ∧ ad.natAbs < 2 ^ 400 ∧ ad ≠ 0 ∧ (0 : Int).natAbs < 2 ^ 400 ∧ (1 : Int).natAbs < 2 ^ 400 ∧ (1 : Int) ≠ 0 from ⟨la1, la2, la3, l0t (k := 400), l1t (k := 400) (by decide), by decide⟩)
  have HOa := Lib.hid (fun w' => rof_any an ad w' la4.1 la4.2 la5.1 la5.2)
  have HOb := Lib.hid (fun w' => rof_any 0 1 w' (by decide) (by decide) (by decide) (by decide))
  clear la1 la2 la3 la4 la5
  have HQ := Lib.hid hq
  have HRe := Lib.hid hre
  clear hq hre
  clear hN hop e hT hc
  generalize plA t (p + 1) 0 = pa at *
  go_enter Tryz.func9, Tryz.ntmps9
  go_wp2_with fail
  generalize (w.alloc (.cells #[.int .i64 0, .int .i64 0] 29)).alloc (.cells #[.int .i64 3, .int .i64 qa, .int .i64 qb, .int .i64 qn, .int .i64 qd] 47) = W0 at *
  refine (HBl.out _ HS.out.bel).mono ?_
  rintro e w1 ⟨vl, rfl, hown, hb1⟩
  have HO1 := Lib.hid hown
  have HS1 := Lib.hid (HS.out.keep hb1)
  obtain ⟨la, lc, rfl⟩ := own_len hown
  obtain ⟨g, hg0, hg1⟩ : ∃ g, la = some ⟨g, 0, none⟩ ∧ ∀ wx, YtfkaliammmpcfaaGreatDoor.Own wx W0.heap.size (.slice la 1 lc) [((pa : Nat) : Int)] → wx.cell? ⟨g, 0, none⟩ = some (.int .i64 ((pa : Nat) : Int)) := by
    rcases hown.reads with ⟨e, _⟩ | ⟨g, cap', e, _⟩
    · injection e with _ e _
      simp at e
    · injection e with e1 _ _
      refine ⟨g, e1, fun wx hx => ?_⟩
      subst e1
      have hcl := World.ownsRow.cells (g := g) hx rfl
      have a0 := hcl 0 (.int .i64 ((pa : Nat) : Int)) rfl
      rw [Go.WideShapes.add_plain, Nat.zero_add] at a0
      exact a0
  subst hg0
  have HG := Lib.hid hg1
  have g0 := hg1 _ hown
  clear hown hb1 hg1 HS n0 HBl HPl
  go_wp2_with fail
  refine (HA.out _ HS1.out.bel).mono ?_
  rintro e w2 ⟨rfl, hb2⟩
  have HU5 := Lib.hid (RvU.new (HS1.out.keep hb2) (Nat.le_refl _) an ad)
  clear hb2 g0 HS1 HO1 HA HG
  have x0 := HU5.out.x0
  have x1 := HU5.out.x1
  have y0 := HU5.out.y0
  have y1 := HU5.out.y1
  have wz0 := HU5.out.w0'
  have wz1 := HU5.out.w1'
  go_wp2_with fail
  refine (HOa.out _).mono ?_
  rintro e w6 ⟨⟨vx, rfl, hx⟩, hb6⟩
  obtain ⟨xs1, xa1, xk1, xc1, xs2, xa2, xk2, xc2, rfl, -, -, -, -⟩ := hx.parts
  have HX6 := Lib.hid (hx.keep (newF w6 (.cells #[.bool xs1, .slice xa1 xk1 xc1, .bool xs2, .slice xa2 xk2 xc2] 68)))
  have HU6 := Lib.hid ((HU5.out.keep hb6).keep (newF w6 (.cells #[.bool xs1, .slice xa1 xk1 xc1, .bool xs2, .slice xa2 xk2 xc2] 68)))
  have HP6 := Lib.hid (BxS.new w6 (.bool xs1) (.slice xa1 xk1 xc1) (.bool xs2) (.slice xa2 xk2 xc2))
  clear hx hb6 x0 x1 y0 y1 wz0 wz1 HU5 HOa
  have y0 := HU6.out.y0
  have y1 := HU6.out.y1
  go_wp2_with fail
  refine (HOb.out _).mono ?_
  rintro e w7 ⟨⟨vy, rfl, hy⟩, hb7⟩
  obtain ⟨ys1, ya1, yk1, yc1, ys2, ya2, yk2, yc2, rfl, -, -, -, -⟩ := hy.parts
  have HY7 := Lib.hid (hy.keep (newF w7 (.cells #[.bool ys1, .slice ya1 yk1 yc1, .bool ys2, .slice ya2 yk2 yc2] 68)))
  have HX7 := Lib.hid ((HX6.out.keep hb7).keep (newF w7 (.cells #[.bool ys1, .slice ya1 yk1 yc1, .bool ys2, .slice ya2 yk2 yc2] 68)))
  have HU7 := Lib.hid ((HU6.out.keep hb7).keep (newF w7 (.cells #[.bool ys1, .slice ya1 yk1 yc1, .bool ys2, .slice ya2 yk2 yc2] 68)))
  have HP7 := Lib.hid ((HP6.out.keep hb7).keep (newF w7 (.cells #[.bool ys1, .slice ya1 yk1 yc1, .bool ys2, .slice ya2 yk2 yc2] 68)))
  have HR7 := Lib.hid (BxS.new w7 (.bool ys1) (.slice ya1 yk1 yc1) (.bool ys2) (.slice ya2 yk2 yc2))
  clear hy hb7 y0 y1 HU6 HX6 HP6 HOb
  obtain ⟨p0, p1, p2, p3⟩ := HP7.out
  obtain ⟨q0, q1, q2, q3⟩ := HR7.out
  have HOr := Lib.hid (rordq_any an ad 0 1 _ _ _ HX7.out HY7.out HLm.out.1 HLm.out.2.1 HLm.out.2.2.2.1 HLm.out.2.2.2.2.1)
  generalize hsg : (an * 1 - 0 * ad).sign = sg at HOr
  have HSg := Lib.hid hsg
  have sg3 := sgn3 hsg
  clear hsg
  go_wp2_with fail
  refine HOr.out.mono ?_
  rintro e w8 ⟨rfl, hb8⟩
  have HU8 := Lib.hid (HU7.out.keep hb8)
  have HX8 := Lib.hid (HX7.out.keep hb8)
  have HY8 := Lib.hid (HY7.out.keep hb8)
  have HP8 := Lib.hid (HP7.out.keep hb8)
  have HR8 := Lib.hid (HR7.out.keep hb8)
  clear hb8 p0 p1 p2 p3 q0 q1 q2 q3 HU7 HX7 HY7 HP7 HR7 HOr
  have n0 := HU8.out.s.n0
  have r0 := HU8.out.s.r0
  have r1 := HU8.out.s.r1
  have z0 := HU8.out.s.z0
  have z1 := HU8.out.s.z1
  have HAd := Lib.hid (raddq_any an ad 0 1 _ _ w8 HX8.out HY8.out HLm.out.1 HLm.out.2.1 HLm.out.2.2.2.1 HLm.out.2.2.2.2.1)
  obtain ⟨p0, p1, p2, p3⟩ := HP8.out
  obtain ⟨q0, q1, q2, q3⟩ := HR8.out
  go_wp2_with fail
  refine HAd.out.mono ?_
  rintro e w9 ⟨⟨vz, rfl, hz⟩, hb9⟩
  obtain ⟨zs1, za1, zk1, zc1, zs2, za2, zk2, zc2, rfl, -, -, -, -⟩ := hz.parts
  have hbx := onF hb9 (newF w9 (.cells #[.bool zs1, .slice za1 zk1 zc1, .bool zs2, .slice za2 zk2 zc2] 68))
  have HU9 := Lib.hid (HU8.out.keep hbx)
  have HX9 := Lib.hid (HX8.out.keep hbx)
  have HY9 := Lib.hid (HY8.out.keep hbx)
  have HP9 := Lib.hid (HP8.out.keep hbx)
  have HR9 := Lib.hid (HR8.out.keep hbx)
  have HZ9 := Lib.hid (hz.keep (newF w9 (.cells #[.bool zs1, .slice za1 zk1 zc1, .bool zs2, .slice za2 zk2 zc2] 68)))
  have HT9 := Lib.hid (BxS.new w9 (.bool zs1) (.slice za1 zk1 zc1) (.bool zs2) (.slice za2 zk2 zc2))
  have HF9 : Hid (∀ i, (w9.alloc (.cells #[.bool zs1, .slice za1 zk1 zc1, .bool zs2, .slice za2 zk2 zc2] 68)).frozen? ⟨w9.heap.size, i, none⟩ = false) := Lib.hid (fun i => World.frozen?_alloc_at _ _ _ _ rfl)
  have HYl : Hid (w2.heap.size + 1 < w9.heap.size) := Lib.hid (Nat.lt_of_lt_of_le (ltF HU8.out.y0) hb9.size)
  clear hz hb9 hbx p0 p1 p2 p3 q0 q1 q2 q3 n0 r0 r1 z0 z1 HU8 HX8 HY8 HP8 HR8 HAd HSg sg3
  have n0 := HU9.out.s.n0
  obtain ⟨s0, s1, s2, s3⟩ := HT9.out
  clear s0 s1 s2 s3
  have HMu := Lib.hid (rnegq_any an ad _ _ HX9.out)
  obtain ⟨p0, p1, p2, p3⟩ := HP9.out
  obtain ⟨q0, q1, q2, q3⟩ := HR9.out
  go_wp2_with fail
  refine HMu.out.mono ?_
  rintro e w10 ⟨⟨vm, rfl, hm⟩, hb10⟩
  obtain ⟨ms1, ma1, mk1, mc1, ms2, ma2, mk2, mc2, rfl, hm1, hm2, -, -⟩ := hm.parts
  have HT10 := HT9.out.keep hb10
  have f0 := (hb10.frozen (p := ⟨w9.heap.size, 0, none⟩) (by simp)).trans (HF9.out 0)
  have f1 := (hb10.frozen (p := ⟨w9.heap.size, 1, none⟩) (by simp)).trans (HF9.out 1)
  have f2 := (hb10.frozen (p := ⟨w9.heap.size, 2, none⟩) (by simp)).trans (HF9.out 2)
  have f3 := (hb10.frozen (p := ⟨w9.heap.size, 3, none⟩) (by simp)).trans (HF9.out 3)
  obtain ⟨t0, t1, t2, t3⟩ := HT10
  have HZs : Hid (BigQ ((((w10.setCell ⟨w9.heap.size, 0, none⟩ (.bool ms1)).setCell ⟨w9.heap.size, 1, none⟩ (.slice ma1 mk1 mc1)).setCell ⟨w9.heap.size, 2, none⟩ (.bool ms2)).setCell ⟨w9.heap.size, 3, none⟩ (.slice ma2 mk2 mc2)) (.agg #[.bool ms1, .slice ma1 mk1 mc1, .bool ms2, .slice ma2 mk2 mc2]) (-an) ad) := Lib.hid (BigQ.of (four_stored hm1 t0 t1 t2 t3 _ _ _ _) (four_stored hm2 t0 t1 t2 t3 _ _ _ _))
  have HUs := Lib.hid ((HU9.out.keep hb10).set4 HYl.out (.bool ms1) (.slice ma1 mk1 mc1) (.bool ms2) (.slice ma2 mk2 mc2))
  obtain ⟨s0, s1, s2, s3⟩ := BxS.set4 (w := w10) ⟨t0, t1, t2, t3⟩ (.bool ms1) (.slice ma1 mk1 mc1) (.bool ms2) (.slice ma2 mk2 mc2)
  clear hm hm1 hm2 hb10 p0 p1 p2 p3 q0 q1 q2 q3 n0
  have n0 := HUs.out.s.n0
  have HRt := Lib.hid (rratio_any (-an) ad _ _ HZs.out HLm.out.2.2.1 (lim_up (k := 400) (m := 900) (by decide) HNl.out) (lim_up (k := 400) (m := 900) (by decide) HLm.out.2.1))
  rw [HQ.out] at HRt
  go_wp2_with fail
  refine HRt.out.mono ?_
  rintro e wt ⟨rfl, hbt⟩
  have HUt := Lib.hid ((HUs.out.keep hbt).keep (newF wt (.cells #[.int .i64 rn, .int .i64 rd] 29)))
  have r0 := HUt.out.s.r0
  have r1 := HUt.out.s.r1
  have z0 := HUt.out.s.z0
  have z1 := HUt.out.s.z1
  clear hbt t0 t1 t2 t3 f0 f1 f2 f3 s0 s1 s2 s3 HRt
  by_cases hre : re = 0
  · have HRb := Lib.hid (HRe.out.1 hre)
    subst hre
    go_wp2_with fail
    exact bodyPost_ret (v := .tuple #[.agg #[.int .i64 rn, .int .i64 rd], .bool true, .int .i64 0]) (by simp [results, Tryz.results9, go_sem, r0, r1]) rfl ⟨by rw [HRb.out], set2Q HUt.out.s.bel (Nat.le_refl _)⟩
  · have HRb := Lib.hid (HRe.out.2 hre)
    have re1 : (re != 0) = true := bne_iff_ne.2 hre
    clear hre
    go_wp2_with fail
    exact bodyPost_ret (v := .tuple #[.agg #[.int .i64 0, .int .i64 0], .bool false, .int .i64 re]) (by simp [results, Tryz.results9, go_sem, r0, r1]) rfl ⟨by obtain ⟨e1, e2, e3⟩ := HRb.out; rw [e1, e2, e3], set2Q HUt.out.s.bel (Nat.le_refl _)⟩


end Go.Proofs.YtfkaliammmpcfaaGreatDoor

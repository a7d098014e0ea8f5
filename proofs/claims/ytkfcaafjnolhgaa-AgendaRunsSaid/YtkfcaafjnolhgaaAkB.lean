/-
  chattelref11: Put, Take: what they answer.
-/
import Derived.Test.YtkfcaafjnolhgaaAkA
import Derived.Test.YtkfcaafjnolhgaaAjB
namespace Go.Proofs.Ytkfcaafjnolhgaa
open Go.RowKit Go.Lib Go.Maps Go.Sort Go.Shelf
set_option linter.unusedVariables false
set_option linter.unusedSimpArgs false

theorem RowX.off {α : Type} [Inhabited α] {E : α → List Value} {k : Nat} {w w' : World} {v : Value} {m : List α} {F : Nat → Prop} (h : RowX E k w v m) (ho : Off F w w') (hE : ∀ t, (E t).length = k) (hn : ∀ b o n c, v = .slice (some ⟨b, o, none⟩) n c → m ≠ [] → ¬ F b) : RowX E k w' v m := by
  rcases h with h | ⟨h0, b, o, c, e, h1, h2, h3⟩
  · exact .inl h
  · exact .inr ⟨h0, b, o, c, e, h1, h2, fun j hj i z hi hz => ho.cell (h3 j hj i z hi hz) (hn b o _ c e (fun e => by rw [e] at h0; exact absurd h0 (Nat.lt_irrefl _)))⟩
/-- The reference in memory: a row of items, and how many were put. -/
structure RgV (Av : Nat → Prop) (w : World) (r : Nat) (v : Value) (L : List It) (n : Nat) : Prop where
  c0 : w.cell? ⟨r, 0, none⟩ = some v
  c1 : w.cell? ⟨r, 1, none⟩ = some (.int .i64 (n : Nat))
  f0 : w.frozen? ⟨r, 0, none⟩ = false
  f1 : w.frozen? ⟨r, 1, none⟩ = false
  row : RowX itL 3 w v L
  ne : ∀ b o m c, v = .slice (some ⟨b, o, none⟩) m c → L ≠ [] → ¬ Av b
  pr : Av r
variable {Av : Nat → Prop}
theorem RgV.lt {w : World} {r n : Nat} {v : Value} {L : List It} (h : RgV Av w r v L n) : r < w.heap.size := ltF h.c0
theorem RgV.off {w w' : World} {r n : Nat} {v : Value} {L : List It} {F : Nat → Prop} (h : RgV Av w r v L n) (ho : Off F w w') (hr : ¬ F r) (hn : ∀ b o m c, v = .slice (some ⟨b, o, none⟩) m c → L ≠ [] → ¬ F b) : RgV Av w' r v L n :=
  ⟨ho.cell h.c0 hr, ho.cell h.c1 hr, (ho.frozen h.lt hr).trans h.f0, (ho.frozen h.lt hr).trans h.f1, h.row.off ho itL_len hn, h.ne, h.pr⟩
theorem RgV.keep {w w' : World} {r n : Nat} {v : Value} {L : List It} (h : RgV Av w r v L n) (hb : Below w.heap.size w w') : RgV Av w' r v L n := h.off (Off.of (F := fun _ => False) hb) (fun c => c) (fun _ _ _ _ _ _ c => c)
/-- Another row is written. -/
theorem RgV.put {w : World} {r n : Nat} {v v' : Value} {L L' : List It} (h : RgV Av w r v L n) (hr : RowX itL 3 w v' L') (hn : ∀ b o m c, v' = .slice (some ⟨b, o, none⟩) m c → L' ≠ [] → ¬ Av b) : RgV Av (w.setCell ⟨r, 0, none⟩ v') r v' L' n :=
  ⟨cell_same h.c0, (cell_other (addr_ne_off (by decide))).trans h.c1, by rw [World.frozen?_setCell]; exact h.f0, by rw [World.frozen?_setCell]; exact h.f1, hr.off (Off.set w r 0 v') itL_len (fun b o m c e hne e' => hn b o m c e hne (by rw [e']; exact h.pr)), hn, h.pr⟩
theorem RgV.num {w : World} {r n n' : Nat} {v : Value} {L : List It} (h : RgV Av w r v L n) (hn : ((n' : Nat) : Int) = (n : Int) + 1) : RgV Av (w.setCell ⟨r, 1, none⟩ (.int .i64 ((n : Int) + 1))) r v L n' :=
  ⟨(cell_other (addr_ne_off (by decide))).trans h.c0, by rw [hn]; exact cell_same h.c1, by rw [World.frozen?_setCell]; exact h.f0, by rw [World.frozen?_setCell]; exact h.f1, h.row.off (Off.set w r 1 _) itL_len (fun b o m c e hne e' => h.ne b o m c e hne (by rw [e']; exact h.pr)), h.ne, h.pr⟩
theorem own_ne {w : World} {ty : TypeId} {B r : Nat} {v : Value} {L : List It} (h : OwnX itL 3 ty w B v L) (hr : r < B) : ∀ b o m c, v = .slice (some ⟨b, o, none⟩) m c → L ≠ [] → b ≠ r := fun b o m c e hne e' => by
  obtain ⟨va, vc, rfl⟩ := h.slice
  obtain ⟨g, o', ha, _⟩ := h.its (List.length_pos_iff.2 hne)
  subst ha
  injection e with e1 _ _
  injection e1 with e1
  injection e1 with e1 _ _
  have := (h.lt g rfl).1
  omega
theorem own_av {w : World} {ty : TypeId} {B : Nat} {v : Value} {L : List It} (h : OwnX itL 3 ty w B v L) (hA : ∀ k, Av k → k < B) : ∀ b o m c, v = .slice (some ⟨b, o, none⟩) m c → L ≠ [] → ¬ Av b := fun b o m c e hne hav => own_ne h (hA b hav) b o m c e hne rfl
theorem ret_i2R {a b a' b' : Int} (h : a = a') (h' : b = b') : Ending.returned (.tuple #[.int .i64 a, .int .i64 b]) = .returned (.tuple #[.int .i64 a', .int .i64 b']) := by rw [h, h']
theorem set_off01 {w : World} {r : Nat} {v : Value} : (w.setCell ⟨r, 0, none⟩ v).cell? ⟨r, 1, none⟩ = w.cell? ⟨r, 1, none⟩ := cell_other (addr_ne_off (by decide))

set_option maxRecDepth 100000 in
set_option maxHeartbeats 4000000 in
theorem rput_any (w : World) {r n : Nat} {v : Value} {L : List It} (h : RgV Av w r v L n) (hA : ∀ k, Av k → k < w.heap.size) (hn : n ≤ 500) (hl : L.length ≤ 500) (d t : Int) : Calls Try.prog 12 #[.pointer (some ⟨r, 0, none⟩), .int .i64 d, .int .i64 t] w fun e w' => e = .returned (.tuple #[.int .i64 (putZ d t L n).x.no, .int .i64 (putZ d t L n).e]) ∧ ∃ v', RgV Av w' r v' (putZ d t L n).L (putZ d t L n).n ∧ Off (fun k => k = r) w w' := by
  unfold putZ
  by_cases hd : 0 ≤ d ∧ d ≤ 73048
  · rw [if_pos hd]
    obtain ⟨d0, d1⟩ := hd
    have c0 : w.drew.cell? ⟨r, 0, none⟩ = some v := h.c0
    have c1 : w.drew.cell? ⟨r, 1, none⟩ = some (.int .i64 (n : Nat)) := h.c1
    have HAv := Lib.hid hA
    have HR := Lib.hid (h.keep (Below.drew (Below.refl _ _)))
    have HQ := Lib.hid (rin_any w.drew L (by omega) v (h.keep (Below.drew (Below.refl _ _))).row ⟨d, (n : Nat), t⟩)
    have n0 : (0 : Int) ≤ (n : Int) := by omega
    have n1 : (n : Int) ≤ 500 := by omega
    obtain ⟨va, vc, rfl⟩ := h.row.slice
    dsimp only at HQ ⊢
    clear h hn hl hA
    go_enter Try.func12, Try.ntmps12
    go_wp2_with fail
    go_region_with (go_at_call 27; (with_reducible refine HQ.out.mono ?_); rintro e w3 ⟨v', rfl, ho, hb⟩; obtain ⟨sa, sc, rfl⟩ := ho.slice; have HR3 := Lib.hid (HR.out.keep hb); have HO3 := Lib.hid ho; have HB3 := Lib.hid hb; clear ho hb; have c0 := HR3.out.c0; have c1 := HR3.out.c1; have f0 := HR3.out.f0; have f1 := HR3.out.f1)
    all_goals
      have HR4 := Lib.hid (HR3.out.put (HO3.out.row (E := itL) (k := 3) itL_len) (own_av HO3.out (fun k hk => HAv.out k hk)))
      have k1 := HR4.out.c1
      have k2 := HR4.out.f1
      go_wp2_with fail
      go_ret2
      exact ⟨ret_i2R (by first | rfl | omega) rfl, _, HR4.out.num (by omega), (Off.of (undrewB HB3.out)).both ((Off.set w3 r 0 _).both (Off.set _ r 1 _))⟩
  · rw [if_neg hd]
    by_cases d0 : d < 0
    · clear hd
      go_enter Try.func12, Try.ntmps12
      go_wp2_with fail
      go_ret2
      first | exact ⟨rfl, v, h, Off.refl _ _⟩ | exact ⟨rfl, ⟨v, h⟩, Off.refl _ _⟩
    · have d1 : 73048 < d := by omega
      clear hd
      go_enter Try.func12, Try.ntmps12
      go_wp2_with fail
      go_ret2
      first | exact ⟨rfl, v, h, Off.refl _ _⟩ | exact ⟨rfl, ⟨v, h⟩, Off.refl _ _⟩

theorem RowX.cut1 {w : World} {a : Option Addr} {n cap : Nat} {x : It} {M : List It} (h : RowX itL 3 w (.slice a n cap) (x :: M)) : ∃ b o, a = some ⟨b, o, none⟩ ∧ n = M.length + 1 ∧ M.length + 1 ≤ cap ∧ cap ≤ 9223372036854775807 ∧ w.cell? ⟨b, o, none⟩ = some (.int .i64 x.d) ∧ w.cell? ⟨b, o + 1, none⟩ = some (.int .i64 x.no) ∧ w.cell? ⟨b, o + 2, none⟩ = some (.int .i64 x.tag) ∧ RowX itL 3 w (.slice (some ⟨b, o + 3, none⟩) M.length (cap - 1)) M := by
  rcases h with ⟨e, _⟩ | ⟨_, b, o, c, e, h1, h2, h3⟩
  · cases e
  · injection e with e1 e2 e3
    subst e1 e2 e3
    refine ⟨b, o, rfl, rfl, h1, h2, ?_, ?_, ?_, ?_⟩
    · have := h3 0 (by simp) 0 (.int .i64 x.d) (by decide) rfl
      simpa using this
    · have := h3 0 (by simp) 1 (.int .i64 x.no) (by decide) rfl
      simpa using this
    · have := h3 0 (by simp) 2 (.int .i64 x.tag) (by decide) rfl
      simpa using this
    · have := RowX.tail (E := itL) (n := 3) (k := 1) h1 h2 h3 (by simp)
      simpa using this
/-- Two items of the call's own: the result, and one more. -/
theorem two_items (w : World) (x : It) : ∃ W1 W2 : World, W1 = w.alloc (.cells #[.int .i64 0, .int .i64 0, .int .i64 0] 37) ∧ W2 = W1.alloc (.cells #[.int .i64 x.d, .int .i64 x.no, .int .i64 x.tag] 37) ∧ Below w.heap.size w W1 ∧ Below w.heap.size w W2 ∧ W2.heap.size = w.heap.size + 1 + 1 ∧ W1.heap.size = w.heap.size + 1 ∧ (∀ k, k < 3 → W2.cell? ⟨w.heap.size, k, none⟩ = some (.int .i64 0) ∧ W2.frozen? ⟨w.heap.size, k, none⟩ = false) ∧ (W2.cell? ⟨w.heap.size + 1, 0, none⟩ = some (.int .i64 x.d) ∧ W2.cell? ⟨w.heap.size + 1, 1, none⟩ = some (.int .i64 x.no) ∧ W2.cell? ⟨w.heap.size + 1, 2, none⟩ = some (.int .i64 x.tag)) := by
  refine ⟨_, _, rfl, rfl, newF _ _, onF (newF _ _) (newF _ _), by simp, by simp, fun k hk => ?_, ?_, ?_, ?_⟩
  · have h1 : (w.alloc (.cells #[.int .i64 0, .int .i64 0, .int .i64 0] 37)).cell? ⟨w.heap.size, k, none⟩ = some (.int .i64 0) := by
      rw [World.cell?_alloc_at _ _ _ _ rfl]
      rcases (show k = 0 ∨ k = 1 ∨ k = 2 by omega) with rfl | rfl | rfl <;> rfl
    exact ⟨keepF (newF _ _) h1, ((newF _ _).frozen (p := ⟨w.heap.size, k, none⟩) (ltF h1)).trans (World.frozen?_alloc_at _ _ _ _ rfl)⟩
  · exact (World.cell?_alloc_at _ _ _ _ (by simp)).trans rfl
  · exact (World.cell?_alloc_at _ _ _ _ (by simp)).trans rfl
  · exact (World.cell?_alloc_at _ _ _ _ (by simp)).trans rfl
set_option maxRecDepth 100000 in
set_option maxHeartbeats 4000000 in
theorem rtake_yes (w : World) {r n : Nat} {v : Value} {x : It} {M : List It} (h : RgV Av w r v (x :: M) n) (hl : M.length ≤ 500) (b' : Int) (hx : x.d ≤ b') : Calls Try.prog 13 #[.pointer (some ⟨r, 0, none⟩), .int .i64 b'] w fun e w' => e = .returned (.tuple #[itV x, .bool true]) ∧ (∃ v', RgV Av w' r v' M n) ∧ Off (fun k => k = r) w w' := by
  obtain ⟨va, vc, rfl⟩ := h.row.slice
  obtain ⟨b, o, ha, hlen, hc1, hc2, y0, y1, y2, ht⟩ := h.row.cut1
  subst ha
  have HAb := Lib.hid (h.ne b o _ _ rfl (by simp))
  have hbr : b ≠ r := fun e => HAb.out (by rw [e]; exact h.pr)
  have hlt := ltF y0
  obtain ⟨W1, W2, e1, e2, hb1, hb2, hz2, hz1, hz, hx3⟩ := two_items w x
  have HE := Lib.hid (And.intro e1 e2)
  clear e1 e2
  have HR := Lib.hid (h.keep hb1)
  have HR2 := Lib.hid (h.keep hb2)
  have HT2 := Lib.hid (ht.keep hb2)
  have y0 := keepF hb1 y0
  have y1 := keepF hb1 y1
  have y2 := keepF hb1 y2
  have c0 := HR.out.c0
  have f0 := HR.out.f0
  have c2 := HR2.out.c0
  have f2 := HR2.out.f0
  have HZ := Lib.hid (And.intro hz hx3)
  have HB := Lib.hid (And.intro hb2 hz2)
  have p1 : ((x :: M).length : Int) = (M.length : Int) + 1 := by simp
  have hx' : ¬ b' < x.d := by omega
  have p2 : ((M.length : Int) + 1 == 0) = false := beq_false_of_ne (by omega)
  have HRl := Lib.hid (show r < w.heap.size from h.lt)
  rw [show (x :: M).length = M.length + 1 from rfl] at *
  clear h ht hb1 hb2 hz hx3 hlen
  unfold itV
  go_enter Try.func13, Try.ntmps13
  go_upto_region 1 with fail
  rw [← HE.out.1]
  go_upto_region 4 with fail
  rw [← HE.out.2]
  go_upto_region 5 with fail
  have hT3 : RowX itL 3 W2 (.slice (if vc = 1 then some ⟨b, o, none⟩ else some ⟨b, o + 3, none⟩) M.length (vc - 1)) M := by
    by_cases cv : vc = 1
    · have h0 : M.length = 0 := by omega
      rw [h0]
      exact .inl ⟨List.length_eq_zero_iff.1 h0, _, _, rfl⟩
    · rw [if_neg cv]; exact HT2.out
  have hN3 : ∀ b' o' m c, Value.slice (if vc = 1 then some ⟨b, o, none⟩ else some ⟨b, o + 3, none⟩) M.length (vc - 1) = .slice (some ⟨b', o', none⟩) m c → b' = b := fun b' o' m c e => by
    injection e with e _ _
    by_cases cv : vc = 1
    · rw [if_pos cv] at e; injection e with e; injection e with e _ _; exact e.symm
    · rw [if_neg cv] at e; injection e with e; injection e with e _ _; exact e.symm
  have HN3 := Lib.hid hN3
  have HR3 := Lib.hid (HR2.out.put hT3 (fun b' o' m c e hne e' => HAb.out (by rw [← hN3 b' o' m c e]; exact e')))
  clear hT3 hN3
  have HO3 := Lib.hid (Off.set W2 r 0 (.slice (if vc = 1 then some ⟨b, o, none⟩ else some ⟨b, o + 3, none⟩) M.length (vc - 1)))
  have hz1 := HB.out.2
  have hrl := HRl.out
  have x0 := HO3.out.cell HZ.out.2.1 (fun e => by omega)
  have x1 := HO3.out.cell HZ.out.2.2.1 (fun e => by omega)
  have x2 := HO3.out.cell HZ.out.2.2.2 (fun e => by omega)
  have z : ∀ k, k < 3 → (W2.setCell ⟨r, 0, none⟩ (.slice (if vc = 1 then some ⟨b, o, none⟩ else some ⟨b, o + 3, none⟩) M.length (vc - 1))).cell? ⟨w.heap.size, k, none⟩ = some (.int .i64 0) ∧ (W2.setCell ⟨r, 0, none⟩ (.slice (if vc = 1 then some ⟨b, o, none⟩ else some ⟨b, o + 3, none⟩) M.length (vc - 1))).frozen? ⟨w.heap.size, k, none⟩ = false := fun k hk => ⟨HO3.out.cell (HZ.out.1 k hk).1 (fun e => by omega), (HO3.out.frozen (ltF (HZ.out.1 k hk).1) (fun e => by omega)).trans (HZ.out.1 k hk).2⟩
  have z0 := (z 0 (by decide)).1
  have z1 := (z 1 (by decide)).1
  have z2 := (z 2 (by decide)).1
  have g0 := (z 0 (by decide)).2
  have g1 := (z 1 (by decide)).2
  have g2 := (z 2 (by decide)).2
  clear z c0 f0 c2 f2 y0 y1 y2
  generalize (if vc = 1 then (some ⟨b, o, none⟩ : Option Addr) else some ⟨b, o + 3, none⟩) = pv at *
  generalize W2.setCell ⟨r, 0, none⟩ (.slice pv M.length (vc - 1)) = W3 at *
  go_wp2_with fail
  exact bodyPost_ret (v := .tuple #[.agg #[.int .i64 x.d, .int .i64 x.no, .int .i64 x.tag], .bool true]) (by simp [results, Try.results13, go_sem, z0, z1, z2]) rfl ⟨rfl, ⟨_, HR3.out.off ((Off.set W3 w.heap.size 0 _).both ((Off.set _ w.heap.size 1 _).both (Off.set _ w.heap.size 2 _))) (fun e => by omega) (fun b' o' m c e hne e' => by have := HN3.out b' o' m c e; omega)⟩, Off.set3 ((Off.of HB.out.1).both HO3.out) (Nat.le_refl _) _ _ _⟩

/-- An item of the call's own: the result. -/
theorem one_item (w : World) : ∃ W1 : World, W1 = w.alloc (.cells #[.int .i64 0, .int .i64 0, .int .i64 0] 37) ∧ Below w.heap.size w W1 ∧ W1.heap.size = w.heap.size + 1 ∧ (∀ k, k < 3 → W1.cell? ⟨w.heap.size, k, none⟩ = some (.int .i64 0) ∧ W1.frozen? ⟨w.heap.size, k, none⟩ = false) := by
  refine ⟨_, rfl, newF _ _, by simp, fun k hk => ?_⟩
  have h1 : (w.alloc (.cells #[.int .i64 0, .int .i64 0, .int .i64 0] 37)).cell? ⟨w.heap.size, k, none⟩ = some (.int .i64 0) := by
    rw [World.cell?_alloc_at _ _ _ _ rfl]
    rcases (show k = 0 ∨ k = 1 ∨ k = 2 by omega) with rfl | rfl | rfl <;> rfl
  exact ⟨h1, World.frozen?_alloc_at _ _ _ _ rfl⟩
theorem below_set3 {w W : World} (h : Below w.heap.size w W) (a b c : Value) : Below w.heap.size w (((W.setCell ⟨w.heap.size, 0, none⟩ a).setCell ⟨w.heap.size, 1, none⟩ b).setCell ⟨w.heap.size, 2, none⟩ c) :=
  Below.setCell (Below.setCell (Below.setCell h (Nat.le_refl _) _) (Nat.le_refl _) _) (Nat.le_refl _) _
set_option maxRecDepth 100000 in
set_option maxHeartbeats 4000000 in
theorem rtake_no (w : World) {r n : Nat} {v : Value} {L : List It} (h : RgV Av w r v L n) (b' : Int) (hno : ∀ x M, L = x :: M → b' < x.d) : Calls Try.prog 13 #[.pointer (some ⟨r, 0, none⟩), .int .i64 b'] w fun e w' => e = .returned (.tuple #[zIt, .bool false]) ∧ Below w.heap.size w w' := by
  obtain ⟨W1, e1, hb1, hz1, hz⟩ := one_item w
  have HE := Lib.hid e1
  clear e1
  have HB := Lib.hid hb1
  have z0 := (hz 0 (by decide)).1
  have z1 := (hz 1 (by decide)).1
  have z2 := (hz 2 (by decide)).1
  have g0 := (hz 0 (by decide)).2
  have g1 := (hz 1 (by decide)).2
  have g2 := (hz 2 (by decide)).2
  have hk := h.keep hb1
  have c0 := hk.c0
  unfold zIt
  cases L with
  | nil =>
    obtain ⟨va, vc, rfl⟩ := h.row.slice
    clear h hk hz hb1 hno
    simp only [List.length_nil] at *
    go_enter Try.func13, Try.ntmps13
    go_upto_region 1 with fail
    rw [← HE.out]
    go_wp2_with fail
    exact bodyPost_ret (v := .tuple #[.agg #[.int .i64 0, .int .i64 0, .int .i64 0], .bool false]) (by simp [results, Try.results13, go_sem, z0, z1, z2]) rfl ⟨rfl, below_set3 HB.out _ _ _⟩
  | cons x M =>
    have hx := hno x M rfl
    obtain ⟨va, vc, rfl⟩ := h.row.slice
    obtain ⟨b, o, ha, hlen, hc1, hc2, y0, y1, y2, ht⟩ := hk.row.cut1
    subst ha
    have p2 : ((M.length : Int) + 1 == 0) = false := beq_false_of_ne (by omega)
    rw [show (x :: M).length = M.length + 1 from rfl] at *
    clear h hk hz hb1 hno ht hlen
    go_enter Try.func13, Try.ntmps13
    go_upto_region 1 with fail
    rw [← HE.out]
    go_wp2_with fail
    exact bodyPost_ret (v := .tuple #[.agg #[.int .i64 0, .int .i64 0, .int .i64 0], .bool false]) (by simp [results, Try.results13, go_sem, z0, z1, z2]) rfl ⟨rfl, below_set3 HB.out _ _ _⟩

end Go.Proofs.Ytkfcaafjnolhgaa

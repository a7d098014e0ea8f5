/-
  chattellaw01.AmountSums's walk: sums and products are the document's, or neither fits.
-/
import Derived.Test.YtaclniiagfpldaaRefH
import Derived.Test.YtaclniiagfpldaaOrder
import Derived.Test.YtaclniiagfpldaaScales
namespace Go.Proofs.Ytaclniiagfpldaa
open Go.RowKit
set_option linter.unusedVariables false

theorem neg_fit (a : Int) (w : World) (a0 : -9223372036854775808 ≤ a) (a1 : a ≤ 9223372036854775807) :
    Calls Try.prog 12 #[.int .i64 a] w fun e w' => e = .returned (.tuple #[.int .i64 (fitN (-a)), .int .i64 (fitE (-a))]) ∧ w = w' := by
  by_cases h : a = -9223372036854775808
  · subst h
    have : inR (- -9223372036854775808) = false := by decide
    rw [fitN_out this, fitE_out this]
    exact neg_min w
  · have : inR (-a) = true := (inR_iff _).2 (by omega)
    rw [fitN_in this, fitE_in this]
    exact neg_ok a w h a0 a1

theorem sum_slf (l : List Int) (p : Option Addr) (cap : Nat) (w : World) (h : SLF w p l) (hi : InI l) (hn : l.length ≤ 1000) :
    Calls Try.prog 14 #[.slice p l.length cap] w fun e w' => e = .returned (.tuple #[.int .i64 (fitN (sumL l)), .int .i64 (fitE (sumL l))]) ∧ w = w' := by
  rcases h with rfl | ⟨b, o, rfl, hb, hr⟩
  · exact sum_nil p cap w
  · exact sum_row l b o cap w hr hi (by omega)

theorem mul_lim {x y : Int} (x0 : -9223372036854775808 ≤ x) (x1 : x ≤ 9223372036854775807) (y0 : -9223372036854775808 ≤ y) (y1 : y ≤ 9223372036854775807) (k : Nat) (hk : 128 ≤ k) : (x * y).natAbs < 2 ^ k := by
  have h1 : x.natAbs < 18446744073709551616 := by omega
  have h2 : y.natAbs < 18446744073709551616 := by omega
  have h3 : x.natAbs * y.natAbs < 18446744073709551616 * 18446744073709551616 := Nat.mul_lt_mul'' h1 h2
  have h4 : (18446744073709551616 * 18446744073709551616 : Nat) = 2 ^ 128 := by decide
  rw [h4] at h3
  rw [Int.natAbs_mul]
  exact Nat.lt_of_lt_of_le h3 (Nat.pow_le_pow_right (by decide) hk)

/-- What the law's two numbers are, and where. -/
structure SumsI (w wx : World) (A B : Nat) (x y : Int) (sx : Bool) (ax : Option Addr) (nx cx : Nat) (sy : Bool) (ay : Option Addr) (ny cy : Nat) (p : Option Addr) (l : List Int) : Prop where
  a0 : wx.cell? ⟨A, 0, none⟩ = some (.bool sx)
  a1 : wx.cell? ⟨A, 1, none⟩ = some (.slice ax nx cx)
  b0 : wx.cell? ⟨B, 0, none⟩ = some (.bool sy)
  b1 : wx.cell? ⟨B, 1, none⟩ = some (.slice ay ny cy)
  bx : BigV wx (.agg #[.bool sx, .slice ax nx cx]) x
  byy : BigV wx (.agg #[.bool sy, .slice ay ny cy]) y
  sl : SLF wx p l
  bel : Below w.heap.size w wx
  la : A < wx.heap.size
  lb : B < wx.heap.size
theorem SumsI.keep {w wx w1 : World} {A B : Nat} {x y : Int} {sx : Bool} {ax : Option Addr} {nx cx : Nat} {sy : Bool} {ay : Option Addr} {ny cy : Nat} {p : Option Addr} {l : List Int} (h : SumsI w wx A B x y sx ax nx cx sy ay ny cy p l) (hb : Below wx.heap.size wx w1) : SumsI w w1 A B x y sx ax nx cx sy ay ny cy p l := by
  have hs1 := hb.size
  have hc : ∀ b i, b < wx.heap.size → w1.cell? ⟨b, i, none⟩ = wx.cell? ⟨b, i, none⟩ := fun b i hb' => hb.cell (p := ⟨b, i, none⟩) hb'
  exact ⟨(hc _ _ h.la).trans h.a0, (hc _ _ h.la).trans h.a1, (hc _ _ h.lb).trans h.b0, (hc _ _ h.lb).trans h.b1, h.bx.keep hb, h.byy.keep hb, h.sl.keep hb, h.bel.trans (hb.mono h.bel.size), Nat.lt_of_lt_of_le h.la hs1, Nat.lt_of_lt_of_le h.lb hs1⟩

theorem sums_start {w w1 w2 : World} {x y : Int} {sx : Bool} {ax : Option Addr} {nx cx : Nat} {sy : Bool} {ay : Option Addr} {ny cy : Nat} {p : Option Addr} {l : List Int} {e : TypeId} (hs : SLF w p l) (h1 : Below w.heap.size w w1) (hx : BigV w1 (.agg #[.bool sx, .slice ax nx cx]) x)
    (h2 : Below (w1.alloc (.cells #[.bool sx, .slice ax nx cx] e)).heap.size (w1.alloc (.cells #[.bool sx, .slice ax nx cx] e)) w2) (hy : BigV w2 (.agg #[.bool sy, .slice ay ny cy]) y) :
    SumsI w (w2.alloc (.cells #[.bool sy, .slice ay ny cy] e)) w1.heap.size w2.heap.size x y sx ax nx cx sy ay ny cy p l := by
  have k1 : Below w1.heap.size w1 (w1.alloc (.cells #[.bool sx, .slice ax nx cx] e)) := Below.alloc (Below.refl _ _) (Nat.le_refl _) _
  have z1 : (w1.alloc (.cells #[.bool sx, .slice ax nx cx] e)).heap.size = w1.heap.size + 1 := by simp
  have s2 := h2.size
  rw [z1] at s2
  have k2 : Below w1.heap.size w1 w2 := k1.trans (h2.mono (by omega))
  have k3 : Below w2.heap.size w2 (w2.alloc (.cells #[.bool sy, .slice ay ny cy] e)) := Below.alloc (Below.refl _ _) (Nat.le_refl _) _
  have k4 : Below w1.heap.size w1 (w2.alloc (.cells #[.bool sy, .slice ay ny cy] e)) := k2.trans (k3.mono k2.size)
  have ca : ∀ i v, #[Value.bool sx, Value.slice ax nx cx][i]? = some v → (w2.alloc (.cells #[.bool sy, .slice ay ny cy] e)).cell? ⟨w1.heap.size, i, none⟩ = some v := fun i v hv => by
    rw [World.cell?_alloc_past _ _ _ (show w1.heap.size < w2.heap.size by omega), h2.cell (p := ⟨w1.heap.size, i, none⟩) (by rw [z1]; show w1.heap.size < _; omega)]
    exact new_at hv
  exact ⟨ca 0 _ rfl, ca 1 _ rfl, new_at rfl, new_at rfl, hx.keep k4, hy.keep k3, (hs.keep h1).keep k4, h1.trans (k4.mono h1.size), by simp; omega, by simp⟩

theorem sums_long (x y : Int) (a : Option Addr) (len cap : Nat) (w : World) (hl : 40 < len) (hm : len ≤ 9223372036854775807) :
    Calls Try.prog 3 #[.int .i64 x, .int .i64 y, .slice a len cap] w fun e w' => e = .returned (.bool true) ∧ Below w.heap.size w w' := by
  go_enter Try.func3, Try.ntmps3
  go_wp2_with (go_at_call 9; refine (awake_any _).mono ?_; rintro e w' ⟨rfl, hb⟩)
  go_ret
  have hb' := ‹Below _ _ _›
  exact ⟨rfl, hb'⟩

set_option maxHeartbeats 4000000 in
set_option maxRecDepth 100000 in
theorem sums_core (x y : Int) (l : List Int) (p : Option Addr) (cap m : Nat) (w : World) (hm : m = l.length) (h : SLF w p l) (hi : InI l) (hn : m ≤ 40) (x0 : -9223372036854775808 ≤ x) (x1 : x ≤ 9223372036854775807) (y0 : -9223372036854775808 ≤ y) (y1 : y ≤ 9223372036854775807) :
    Calls Try.prog 3 #[.int .i64 x, .int .i64 y, .slice p m cap] w fun e w' => e = .returned (.bool true) ∧ Below w.heap.size w w' := by
  have HP := Lib.hid h
  have HOx := Lib.hid (fun w => of_any x w x0 x1)
  have HOy := Lib.hid (fun w => of_any y w y0 y1)
  have HAdd := Lib.hid (fun w => add_any x y w x0 x1 y0 y1)
  have HNeg := Lib.hid (fun w => neg_fit x w x0 x1)
  have HMul := Lib.hid (fun w => mul_any x y w x0 x1 y0 y1)
  have HSum := Lib.hid (fun (w' : World) (hs : SLF w' p l) => hm ▸ sum_slf l p cap w' hs hi (by omega))
  have HRSum := Lib.hid (fun (w' : World) (hs : SLF w' p l) => hm ▸ rsum_any l p cap w' hs hi (by omega))
  have lx := int_lim x0 x1
  have ly := int_lim y0 y1
  have HRAdd := Lib.hid (fun v v' w (h : BigV w v x) (h' : BigV w v' y) => radd_any x y v v' w h h' lx ly)
  have HRMul := Lib.hid (fun v v' w (h : BigV w v x) (h' : BigV w v' y) => rmul_any x y v v' w h h' lx ly)
  have HRNeg : Hid (∀ v w, BigV w v x → Calls Try.prog 17 #[v] w fun e w' => (∃ v, e = .returned v ∧ BigV w' v (-x)) ∧ Below w.heap.size w w') := Lib.hid (fun v w h => by
    obtain ⟨a, c, rfl, g⟩ := h.open
    exact rneg_any x a c w g)
  have HF1 := Lib.hid (fun v w (h : BigV w v (x + y)) => fits_any (x + y) v w h (pow_big 1000 (by decide) (by omega)))
  have HF2 := Lib.hid (fun v w (h : BigV w v (-x)) => fits_any (-x) v w h (pow_big 1000 (by decide) (by omega)))
  have HF3 := Lib.hid (fun v w (h : BigV w v (x * y)) => fits_any (x * y) v w h (mul_lim x0 x1 y0 y1 1000 (by decide)))
  have HF4 := Lib.hid (fun v w (h : BigV w v (sumL l)) => fits_any (sumL l) v w h (sum_lim hi (by omega)))
  clear lx ly h hi hm x0 x1 y0 y1
  go_enter Try.func3, Try.ntmps3
  go_wp2_with fail
  refine (HOx.out _).mono ?_
  rintro e w1 ⟨⟨v1, rfl, hv1⟩, hb1⟩
  obtain ⟨ax, cx, hve, _⟩ := id hv1.open
  generalize decide (x < 0) = sx at hve
  generalize (bitsN x.natAbs).length = nx at hve
  subst hve
  have HV1 := Lib.hid hv1
  have HB1 := Lib.hid hb1
  clear hv1 hb1
  go_wp2_with fail
  refine (HOy.out _).mono ?_
  rintro e w2 ⟨⟨v2, rfl, hv2⟩, hb2⟩
  obtain ⟨ay, cy, hve2, _⟩ := id hv2.open
  generalize decide (y < 0) = sy at hve2
  generalize (bitsN y.natAbs).length = ny at hve2
  subst hve2
  have HI2 := Lib.hid (sums_start HP.out HB1.out HV1.out hb2 hv2)
  clear hv2 hb2
  go_wp2_with fail
  refine (HAdd.out _).mono ?_
  rintro e w' ⟨rfl, rfl⟩
  go_wp2_with fail
  refine (HNeg.out _).mono ?_
  rintro e w' ⟨rfl, rfl⟩
  go_wp2_with fail
  refine (HMul.out _).mono ?_
  rintro e w' ⟨rfl, rfl⟩
  go_wp2_with fail
  refine (HSum.out _ HI2.out.sl).mono ?_
  rintro e w' ⟨rfl, rfl⟩
  obtain ⟨a0, a1, b0, b1, _, _, _, _, _, _⟩ := id HI2.out
  go_wp2_with fail
  refine (HRAdd.out _ _ _ HI2.out.bx HI2.out.byy).mono ?_
  rintro e w3 ⟨⟨v3, rfl, hv⟩, hb⟩
  have HI3 := Lib.hid (HI2.out.keep hb)
  have HV := Lib.hid hv
  clear hv hb
  go_wp2_with fail
  refine (HF1.out _ _ HV.out).mono ?_
  rintro e w4 ⟨rfl, hb⟩
  have HI4 := Lib.hid (HI3.out.keep hb)
  clear hb
  obtain ⟨a0, a1, b0, b1, _, _, _, _, _, _⟩ := id HI4.out
  go_wp2_with fail
  refine (HRNeg.out _ _ HI4.out.bx).mono ?_
  rintro e w5 ⟨⟨v5, rfl, hv⟩, hb⟩
  have HI5 := Lib.hid (HI4.out.keep hb)
  have HV := Lib.hid hv
  clear hv hb
  go_wp2_with fail
  refine (HF2.out _ _ HV.out).mono ?_
  rintro e w6 ⟨rfl, hb⟩
  have HI6 := Lib.hid (HI5.out.keep hb)
  clear hb
  obtain ⟨a0, a1, b0, b1, _, _, _, _, _, _⟩ := id HI6.out
  go_wp2_with fail
  refine (HRMul.out _ _ _ HI6.out.bx HI6.out.byy).mono ?_
  rintro e w7 ⟨⟨v7, rfl, hv⟩, hb⟩
  have HI7 := Lib.hid (HI6.out.keep hb)
  have HV := Lib.hid hv
  clear hv hb
  go_wp2_with fail
  refine (HF3.out _ _ HV.out).mono ?_
  rintro e w8 ⟨rfl, hb⟩
  have HI8 := Lib.hid (HI7.out.keep hb)
  clear hb
  obtain ⟨a0, a1, b0, b1, _, _, _, _, _, _⟩ := id HI8.out
  go_wp2_with fail
  refine (HRSum.out _ HI8.out.sl).mono ?_
  rintro e w9 ⟨⟨v9, rfl, hv⟩, hb⟩
  have HI9 := Lib.hid (HI8.out.keep hb)
  have HV := Lib.hid hv
  clear hv hb
  go_wp2_with fail
  refine (HF4.out _ _ HV.out).mono ?_
  rintro e w10 ⟨rfl, hb⟩
  have HI10 := Lib.hid (HI9.out.keep hb)
  clear hb
  obtain ⟨a0, a1, b0, b1, _, _, _, _, _, _⟩ := id HI10.out
  go_wp2_with fail
  refine (awake_any _).mono ?_
  rintro e w11 ⟨rfl, hb⟩
  have HI11 := Lib.hid (HI10.out.keep hb)
  clear hb
  go_wp2
  go_ret
  exact ⟨rfl, HI11.out.bel⟩

end Go.Proofs.Ytaclniiagfpldaa

/-
  chattellaw08.ValueNeeds: its walk.
-/
import Derived.Test.YtfkaliammmpcfaaDoorVlP
import Derived.Test.YtfkaliammmpcfaaDoorTrm
import Derived.Deep.RegionHeld3
namespace Go.Proofs.YtfkaliammmpcfaaDoor
open Go.RowKit Go.Lib Go.Shelf Go.Maps
set_option linter.unusedVariables false
set_option linter.unusedSimpArgs false

theorem smL_ok {lf : List Fct} (h : OkL lf) (day : Int) (ks : List Int) : OkL (smL lf day ks) := by
  have key : ∀ (ks : List Int) (a : List Fct), OkL a → OkL (ks.foldl (smS lf day) a) := by
    intro ks
    induction ks with
    | nil => exact fun a h => h
    | cons k ks ih =>
      intro a ha
      rw [List.foldl_cons]
      refine ih _ ?_
      unfold smS
      split
      · rename_i hk
        intro t ht
        rcases mem_put.1 ht with rfl | ⟨ht, _⟩
        · exact h.get k day hk
        · exact ha t ht
      · exact ha
  exact key ks [] (fun t h => by cases h)
theorem gt_fix {lf : List Fct} (hF : FixL lf) {k d : Int} (h : (gtL lf k d).2.2 = true) : fixE k d (gtL lf k d).1 (gtL lf k d).2.1 = 0 := by
  rcases gtL_cases lf k d with ⟨t, ht, e1, e2, e⟩ | ⟨_, e⟩
  · rw [e]; rw [← e1, ← e2]; exact hF t ht
  · rw [e] at h; cases h
theorem new_same2 {w : World} {a : Addr} {o : Obj} (h : a.block < w.heap.size) : (w.alloc o).cell? a = w.cell? a := (newF w o).cell (p := a) h
theorem set_two2 {w : World} {X b i : Nat} {u v : Value} (h : b ≠ X) : ((w.setCell ⟨X, 0, none⟩ u).setCell ⟨X, 1, none⟩ v).cell? ⟨b, i, none⟩ = w.cell? ⟨b, i, none⟩ := by
  rw [cell_other (fun e => h (by injection e with e _ _; exact e.symm)), cell_other (fun e => h (by injection e with e _ _; exact e.symm))]
theorem zero_at2 {w w' : World} {ty : TypeId} (hb : Below (w.alloc (.cells #[.int .i64 0, .int .i64 0] ty)).drew.heap.size (w.alloc (.cells #[.int .i64 0, .int .i64 0] ty)).drew w') :
    w'.cell? ⟨w.heap.size, 0, none⟩ = some (.int .i64 0) ∧ w'.cell? ⟨w.heap.size, 1, none⟩ = some (.int .i64 0) ∧ w'.frozen? ⟨w.heap.size, 0, none⟩ = false ∧ w'.frozen? ⟨w.heap.size, 1, none⟩ = false := by
  have hlt : w.heap.size < (w.alloc (.cells #[.int .i64 0, .int .i64 0] ty)).drew.heap.size := by show _ < (w.alloc (.cells #[.int .i64 0, .int .i64 0] ty)).heap.size; simp
  refine ⟨(World.cell?_of_block (hb.block _ hlt)).trans ?_, (World.cell?_of_block (hb.block _ hlt)).trans ?_, (World.frozen?_of_block (hb.block _ hlt)).trans ?_, (World.frozen?_of_block (hb.block _ hlt)).trans ?_⟩
  · show (w.alloc _).cell? _ = _
    rw [World.cell?_alloc_at _ _ _ _ rfl]; rfl
  · show (w.alloc _).cell? _ = _
    rw [World.cell?_alloc_at _ _ _ _ rfl]; rfl
  · show (w.alloc _).frozen? _ = _
    simp
  · show (w.alloc _).frozen? _ = _
    simp
theorem box_twoQ (w : World) (a b : Int) : (w.alloc (.cells #[.int .i64 a, .int .i64 b] 24)).cell? ⟨w.heap.size, 0, none⟩ = some (.int .i64 a) ∧ (w.alloc (.cells #[.int .i64 a, .int .i64 b] 24)).cell? ⟨w.heap.size, 1, none⟩ = some (.int .i64 b) := by
  refine ⟨?_, ?_⟩
  all_goals rw [World.cell?_alloc_at _ _ _ _ rfl]
  all_goals rfl
set_option maxRecDepth 100000 in
set_option maxHeartbeats 0 in
theorem vneeds_walk (w : World) (t : List Nd) (hbd : BdT t) (v0 : Value) (h0 : SlT w v0 t) (L : List Tol) (v1 : Value) (h1 : SlTol w v1 L) (hok : ∀ j, j < L.length → (L.getD j default).Ok) (p day : Int) (hd : I64 day) (C : KndW w) :
    Calls Tryd.prog 3 #[v0, v1, .agg #[.int .i64 p, .int .i64 day]] w fun e w' => e = .returned (.bool true) ∧ Below w.heap.size w w' := by
  have HAw := Lib.hid (fun (w' : World) (hb : Below w.heap.size w w') => awake8_any w' (C.keep hb))
  have HS := Lib.hid (And.intro h0 h1)
  obtain ⟨a0, c0, rfl⟩ := h0.slice
  obtain ⟨a1, c1', rfl⟩ : ∃ a c, v1 = .slice a L.length c := by
    rcases h1 with ⟨rfl, a, c, rfl⟩ | ⟨_, b, o, c, rfl, _⟩
    · exact ⟨_, _, rfl⟩
    · exact ⟨_, _, rfl⟩
  have HB0 := Lib.hid (newF w (.cells #[.int .i64 p, .int .i64 day] 24))
  obtain ⟨q0, q1⟩ := box_twoQ w p day
  have HQ0 := Lib.hid (And.intro q0 q1)
  by_cases l0 : 100 < t.length
  · have i_l0 : (100 : Int) < (t.length : Int) := by omega
    clear h0 h1 hok hbd C HS q0 q1
    go_enter Tryd.func3, Tryd.ntmps3
    go_wp2_with fail
    refine (HAw.out _ HB0.out).mono ?_
    rintro e w2 ⟨rfl, hb2⟩
    have HB2 := Lib.hid (onF HB0.out hb2)
    clear hb2
    go_wp2_with fail
    go_ret
    exact ⟨rfl, HB2.out⟩
  have i_l0 : ¬ (100 : Int) < (t.length : Int) := by omega
  by_cases l1 : 60 < L.length
  · have i_l1 : (60 : Int) < (L.length : Int) := by omega
    clear h0 h1 hok hbd C HS q0 q1
    go_enter Tryd.func3, Tryd.ntmps3
    go_wp2_with fail
    refine (HAw.out _ HB0.out).mono ?_
    rintro e w2 ⟨rfl, hb2⟩
    have HB2 := Lib.hid (onF HB0.out hb2)
    clear hb2
    go_wp2_with fail
    go_ret
    exact ⟨rfl, HB2.out⟩
  have i_l1 : ¬ (60 : Int) < (L.length : Int) := by omega
  have HNd := Lib.hid (needs_any t (by omega) hbd _ _ (h0.keep HB0.out) (C.keep HB0.out) p)
  have HWr := Lib.hid (fun (w' : World) (hb : Below w.heap.size w w') => lwrong_any t (by omega) hbd _ w' (h0.keep hb) p)
  by_cases hw : wrN t p = 0
  rotate_left
  · have hw' : (wrN t p != 0) = true := bne_iff_ne.2 hw
    have HW0 := Lib.hid hw
    clear h0 h1 hok hbd C HS hw
    generalize wrN t p = k at *
    go_enter Tryd.func3, Tryd.ntmps3
    go_wp2_with fail
    refine HNd.out.mono ?_
    rintro e w1 ⟨⟨_, rfl⟩ | ⟨hz, _⟩, hb1⟩
    rotate_left
    · exact absurd hz HW0.out
    have HB1 := Lib.hid (onF HB0.out hb1)
    have y0 := keepF hb1 q0
    clear hb1 q0 q1
    go_wp2_with fail
    refine (HWr.out _ HB1.out).mono ?_
    rintro e w2 ⟨rfl, hb2⟩
    have HB2 := Lib.hid (onF HB1.out hb2)
    clear hb2 y0
    go_wp2_with fail
    refine (HAw.out _ HB2.out).mono ?_
    rintro e w3 ⟨rfl, hb3⟩
    have HB3 := Lib.hid (onF HB2.out hb3)
    clear hb3
    go_wp2_with fail
    go_ret
    exact ⟨rfl, HB3.out⟩
  have HE := Lib.hid (fun d => needs_eq (lf := plF L) d hw)
  rw [hw] at HWr
  obtain ⟨z1, n, rfl, hn, hm⟩ := wrN_zero hw
  have hN := (num_at z1 hn hm).1
  have hT := hN.tm
  have hb2 := hT.bd
  have HW0 := Lib.hid hw
  rcases h0 with ⟨h, _⟩ | ⟨_, b, o, cap, hv, hc1, hc2, hNd⟩
  · rw [h] at hn; exact absurd hn (Nat.not_lt_zero _)
  injection hv with hv1 _ hv3
  subst hv1 hv3
  have HLn := Lib.hid (show n < t.length ∧ n + szA t n ≤ t.length ∧ 1 ≤ szA t n ∧ t.length ≤ c0 ∧ c0 ≤ 9223372036854775807 ∧ ¬ 60 < L.length ∧ ¬ 100 < t.length from ⟨hn, hb2.2, hb2.1, hc1, hc2, l1, l0⟩)
  have HSz := Lib.hid (fun (w' : World) (hb : Below w.heap.size w w') => rszT_any t (by omega) b o c0 hc1 n hn w' (hNd.keep hb))
  rw [szE_ok hT] at HSz
  have HNA := Lib.hid hNd
  have HMd := Lib.hid (fun (w' : World) (hs : SlTol w' (.slice a1 L.length c1') L) => made_any w' _ L hs hok)
  have hrel := rel_made L L.length (Nat.le_refl _) hok
  rw [List.take_length] at hrel
  have HRel := Lib.hid (And.intro hrel.1 (And.intro (plF_ok L (ok_mem hok)) (plF_fix L)))
  have HBd := Lib.hid hbd
  have HC := Lib.hid C
  have HD := Lib.hid hd
  have HKI : Hid (∀ x ∈ kyU t n, 0 ≤ x ∧ x < 64) := Lib.hid (fun x hx => by
    unfold kyU at hx
    rw [kyN_mem] at hx
    obtain ⟨m, h1, rfl, _⟩ := hx
    exact ⟨by omega, by omega⟩)
  have HKl : Hid ((kyU t n).length ≤ 64) := Lib.hid (by unfold kyU; exact kyN_len _ _ _)
  rw [Int.toNat_natCast] at HE HNd
  clear hrel h1 hok hbd C z1 hm hN hT hb2 hNd hc1 hc2 hn hw l0 l1 hd
  go_enter Tryd.func3, Tryd.ntmps3
  go_wp2_with fail
  refine HNd.out.mono ?_
  rintro e w1 ⟨⟨hz, _⟩ | ⟨_, kv, rfl, hown⟩, hb1⟩
  · exact absurd HW0.out hz
  have HK1 : Hid (YtfkaliammmpcfaaDoor.Own w1 (w.alloc (.cells #[.int .i64 (n : Int), .int .i64 day] 24)).heap.size kv (kyU t n)) := Lib.hid hown
  obtain ⟨ka, kc, rfl⟩ := own_len HK1.out
  have HB1 := Lib.hid (onF HB0.out hb1)
  have HQ1 := Lib.hid (And.intro (keepF hb1 HQ0.out.1) (keepF hb1 HQ0.out.2))
  have y0 := HQ1.out.1
  clear hb1 q0 q1 hown HNd
  generalize w.alloc (.cells #[.int .i64 (n : Int), .int .i64 day] 24) = w0 at *
  go_wp2_with fail
  refine (HWr.out _ HB1.out).mono ?_
  rintro e w2 ⟨rfl, hb2⟩
  have HB2 := Lib.hid (onF HB1.out hb2)
  have HQ2 := Lib.hid (And.intro (keepF hb2 HQ1.out.1) (keepF hb2 HQ1.out.2))
  have HK2 := Lib.hid (HK1.out.grown hb2)
  clear hb2 y0 HWr HK1 HQ1 HB1
  have y0 := HQ2.out.1
  go_upto_region 7 with fail
  go_cut [10] (fun v wx => v = .int .i64 ((n : Int) + ((szA t n : Nat) : Int)) ∧ Below w2.heap.size w2 wx)
  case first =>
    have HBd : Hid (Below w2.heap.size w2 w2.drew) := Lib.hid (Below.drew (Below.refl _ _))
    have hwr : IntKind.i64.wrap ((n : Int) + ((szA t n : Nat) : Int)) = (n : Int) + ((szA t n : Nat) : Int) := IntWalk.i64_in _ (by have := HLn.out; omega)
    have yd : w2.drew.cell? ⟨w.heap.size, 0, none⟩ = some (.int .i64 (n : Int)) := keepF HBd.out HQ2.out.1
    generalize szA t n = sz at *
    go_region_held3 (fun w' => w'.cell? ⟨w.heap.size, 0, none⟩ = some (.int .i64 (n : Int)))
      (with_reducible exact yd)
      ((go_at_call 10; refine (HSz.out _ (onF HB2.out HBd.out)).mono ?_; rintro e w3 ⟨rfl, hb3⟩; have HB3 := Lib.hid (onF HBd.out hb3); clear hb3 yd; have yd := keepF HB3.out HQ2.out.1))
    all_goals go_wp2
    all_goals go_meet
    all_goals exact ⟨rfl, HB3.out⟩
  case rest =>
    obtain ⟨rfl, hb3⟩ := hcut
    have HB3 := Lib.hid (onF HB2.out hb3)
    have HQ3 := Lib.hid (And.intro (keepF hb3 HQ2.out.1) (keepF hb3 HQ2.out.2))
    have HK3 := Lib.hid (HK2.out.grown hb3)
    have HNU := Lib.hid (fun (w' : World) (hb : Below w.heap.size w w') => sub_nd (HNA.out.keep hb) HLn.out.2.1)
    have HUl := Lib.hid (subT_len HLn.out.2.1)
    have HKe : Hid (kyN (subT t n (szA t n)) (pT 2 2) 64 = kyU t n) := Lib.hid rfl
    have HRk := Lib.hid (fun (w' : World) (hb : Below w.heap.size w w') => by
      have := rkeys_main (subT t n (szA t n)) (by rw [HUl.out]; have := HLn.out; omega) b (o + n * 5) (c0 - n) (by rw [HUl.out]; have := HLn.out; omega) (by have := HLn.out; omega) 2 2 w' (HNU.out w' hb)
      rw [HUl.out, HKe.out] at this
      exact this)
    have y0 := HQ3.out.1
    have p0 : (0 : Int) ≤ (n : Int) := by omega
    have p1 : (n : Int) < (t.length : Int) := by have := HLn.out; omega
    have z0 : (n : Int) + ((szA t n : Nat) : Int) ≤ (t.length : Int) := by have := HLn.out; omega
    have z1 : (n : Int) ≤ (n : Int) + ((szA t n : Nat) : Int) := by omega
    have z2 : (t.length : Int) ≤ (c0 : Int) := by have := HLn.out; omega
    have z3 : (n : Int) + ((szA t n : Nat) : Int) ≤ 9223372036854775807 := by have := HLn.out; omega
    have z4 : (n : Int) + ((szA t n : Nat) : Int) ≤ (c0 : Int) := by have := HLn.out; omega
    have z5 : (0 : Int) ≤ (n : Int) + ((szA t n : Nat) : Int) := by omega
    have hcq' : ¬ c0 - n = 0 := by have := HLn.out; omega
    clear hb3 HB2 HQ2 HK2 HSz HNU HUl HKe HNA
    have HVf := Lib.hid (fun (w' : World) (hb : Below w.heap.size w w') {B bf bc nn : Nat} {Df Dc : DataW Unit} (h : FacM w' B bf bc nn Df Dc) {l : List Fct} (hr : RelV vR Df l) (hO : OkL l) => vat_any t (by have := HLn.out; omega) HBd.out _ w' (HS.out.1.keep hb) (HC.out.keep hb) (n : Int) day h hr hO)
    clear HBd HC
    generalize szA t n = sz at *
    generalize kyU t n = ks at *
    go_wp2_with fail
    refine (HRk.out _ HB3.out).mono ?_
    rintro e w4 ⟨v2, rfl, ho2, hb4⟩
    have HB4 := Lib.hid (onF HB3.out hb4)
    have HQ4 := Lib.hid (And.intro (keepF hb4 HQ3.out.1) (keepF hb4 HQ3.out.2))
    have HK4 := Lib.hid (HK3.out.grown hb4)
    have HIn := Lib.hid (ints_own ks (by have := HKl.out; omega) _ v2 _ _ w4 HK4.out ho2)
    obtain ⟨ka2, kc2, rfl⟩ := own_len ho2
    clear hb4 ho2 HB3 HQ3 HK3 HRk y0
    go_wp2_with fail
    refine HIn.out.mono ?_
    rintro e w5 ⟨rfl, hb5⟩
    have HB5 := Lib.hid (onF HB4.out hb5)
    have HQ5 := Lib.hid (And.intro (keepF hb5 HQ4.out.1) (keepF hb5 HQ4.out.2))
    have HK5 := Lib.hid (HK4.out.grown hb5)
    clear hb5 HB4 HQ4 HK4 HIn p0 p1 z0 z1 z2 z3 z4 z5 hcq'
    go_wp2_with fail
    refine (HMd.out _ (HS.out.2.keep HB5.out)).mono ?_
    rintro e w6 ⟨B1, f1, c1, rfl, hm1, hB1, hf1, hc1, hb6⟩
    have HM6 := Lib.hid hm1
    have HB6 := Lib.hid (onF HB5.out hb6)
    have HQ6 := Lib.hid (And.intro (keepF hb6 HQ5.out.1) (keepF hb6 HQ5.out.2))
    have HK6 := Lib.hid (HK5.out.grown hb6)
    have HNw := Lib.hid (fnew_any w6)
    clear hm1 hB1 hf1 hc1 hb6 HB5 HQ5 HK5 HMd
    go_wp2_with fail
    refine HNw.out.mono ?_
    rintro e w7 ⟨B2, f2, c2, rfl, hm2, hB2, hf2, hc2, hb7⟩
    have HZ : Hid ((f1 ≠ f2 ∧ c1 ≠ f2) ∧ w.heap.size ≤ f2) := Lib.hid ⟨⟨by have := HM6.out.hf.lt; omega, by have := HM6.out.hc.lt; omega⟩, Nat.le_trans HB6.out.size hf2⟩
    have HN7 : Hid (NeeS w w w7 w.heap.size B1 f1 c1 B2 f2 c2 L.length (mkF L) (mkC L) (plF L) (n : Int) day (.slice ka ks.length kc) w0.heap.size ks 0) := Lib.hid ⟨HM6.out.keep hb7, ⟨_, _, hm2, RelV.start _⟩, HK6.out.grown hb7, keepF hb7 HQ6.out.1, keepF hb7 HQ6.out.2, onF HB6.out hb7⟩
    clear hm2 hB2 hf2 hc2 hb7 HM6 HB6 HQ6 HK6 HNw
    go_wp2_with fail
    go_loopw [13, 14] (fun va vi wx => ∃ i : Nat, i ≤ ks.length ∧ vi = .int .i64 (i : Nat) ∧ va = .bool (allN (plF L) day (ks.take i)) ∧ NeeS w w wx w.heap.size B1 f1 c1 B2 f2 c2 L.length (mkF L) (mkC L) (plF L) (n : Int) day (.slice ka ks.length kc) w0.heap.size ks i) (fun _ vi _ => ks.length - (RowKit.intOf vi).toNat)
    case atStart => exact ⟨0, Nat.zero_le _, rfl, rfl, HN7.out⟩
    case round =>
      obtain ⟨i, hi, rfl, rfl, hN⟩ := hrel
      have HNr := Lib.hid hN
      have q64 : ks.length ≤ 64 := HKl.out
      clear HN7
      by_cases hlt : i < ks.length
      · have p0 : (0 : Int) ≤ (i : Int) := by omega
        have p1 : (i : Int) < (ks.length : Int) := by omega
        obtain ⟨g, cap, hv⟩ : ∃ g cap, Value.slice ka ks.length kc = .slice (some ⟨g, 0, none⟩) ks.length cap := by
          rcases hN.ky.reads with ⟨e, e2⟩ | ⟨g, cap, e, _⟩
          · rw [e2] at hlt; exact absurd hlt (Nat.not_lt_zero _)
          · exact ⟨g, cap, e⟩
        injection hv with hv1 _ hv3
        subst hv1 hv3
        have hcell : ∀ wx, NeeS w w wx w.heap.size B1 f1 c1 B2 f2 c2 L.length (mkF L) (mkC L) (plF L) (n : Int) day (.slice (some ⟨g, 0, none⟩) ks.length kc) w0.heap.size ks i → wx.cell? ⟨g, i, none⟩ = some (.int .i64 (ks.getD i 0)) := fun wx hx => by
          have hcl := World.ownsRow.cells (g := g) hx.ky rfl
          have := hcl i (.int .i64 (ks.getD i 0)) (by rw [List.getElem?_map, List.getElem?_eq_getElem hlt, List.getD_eq_getElem?_getD, List.getElem?_eq_getElem hlt]; rfl)
          rw [Go.WideShapes.add_plain, Nat.zero_add] at this
          exact this
        have HCell := Lib.hid hcell
        have HLt := Lib.hid hlt
        have hmem : ks.getD i 0 ∈ ks := by
          rw [List.getD_eq_getElem?_getD, List.getElem?_eq_getElem hlt]
          exact List.getElem_mem hlt
        have hkb := HKI.out _ hmem
        have hki : I64 (ks.getD i 0) := ⟨by omega, by omega⟩
        have HUp := Lib.hid (fun (wx : World) (hx : NeeS w w wx w.heap.size B1 f1 c1 B2 f2 c2 L.length (mkF L) (mkC L) (plF L) (n : Int) day (.slice (some ⟨g, 0, none⟩) ks.length kc) w0.heap.size ks i) => hx.up hlt)
        have HFk := Lib.hid (fun (wx wy : World) (hx : NeeS w w wx w.heap.size B1 f1 c1 B2 f2 c2 L.length (mkF L) (mkC L) (plF L) (n : Int) day (.slice (some ⟨g, 0, none⟩) ks.length kc) w0.heap.size ks i) (hk : (gtL (plF L) (ks.getD i 0) day).2.2 = true) D' Dc2 (hm : FacM wy B2 f2 c2 (i + 1) D' Dc2) hD (hg : wx.grownBy wy (some f2)) => hx.fix hlt hk hki HD.out HZ.out.1 HZ.out.2 hm hD hg)
        have HAl : Hid (allN (plF L) day (ks.take (i + 1)) = (allN (plF L) day (ks.take i) && (gtL (plF L) (ks.getD i 0) day).2.2)) := Lib.hid (by
          rw [List.take_add_one, List.getElem?_eq_getElem hlt, List.getD_eq_getElem?_getD, List.getElem?_eq_getElem hlt]
          exact allN_snoc _ _ _ _)
        have HFx := Lib.hid (fun (w' : World) (hx : NeeS w w w' w.heap.size B1 f1 c1 B2 f2 c2 L.length (mkF L) (mkC L) (plF L) (n : Int) day (.slice (some ⟨g, 0, none⟩) ks.length kc) w0.heap.size ks i) => fixing_l w' hx.m1 HRel.out.1 (ks.getD i 0) day hki HD.out)
        have HRt := Lib.hid (fun (hk : (gtL (plF L) (ks.getD i 0) day).2.2 = true) => And.intro (HRel.out.2.1.get (ks.getD i 0) day hk) (gt_fix HRel.out.2.2 hk))
        have HKi := Lib.hid hki
        have HsW : Hid (w.heap.size ≤ wr.heap.size) := Lib.hid hN.bel.size
        have k0 := hcell wr hN
        have k1 := hN.q1
        clear hcell hmem hkb hki hN hlt
        generalize ks.getD i 0 = key at *
        generalize allN (plF L) day (ks.take i) = s at *
        generalize gtL (plF L) key day = G at *
        obtain ⟨gx, gy, gi⟩ := G
        dsimp only at HUp HFk HAl HFx HRt
        go_upto_region 18 with fail
        go_cut [15, 16] from 83 to 114 (fun u v wx => ∃ X, u = .pointer (some ⟨X, 0, none⟩) ∧ v = .bool gi ∧ wx.cell? ⟨X, 0, none⟩ = some (.int .i64 gx) ∧ wx.cell? ⟨X, 1, none⟩ = some (.int .i64 gy) ∧ Below wr.heap.size wr wx)
        case first =>
          have b0 : Below wr.heap.size wr wr.drew := Below.drew (Below.refl _ _)
          have b1 : ∀ o, Below wr.heap.size wr (wr.alloc o).drew := fun o => Below.drew (newF wr o)
          have HN0 : ∀ wx, Below wr.heap.size wr wx → Hid (NeeS w w wx w.heap.size B1 f1 c1 B2 f2 c2 L.length (mkF L) (mkC L) (plF L) (n : Int) day (.slice (some ⟨g, 0, none⟩) ks.length kc) w0.heap.size ks i) := fun wx hb => Lib.hid (HNr.out.keep hb HsW.out)
          have HKc := Lib.hid (And.intro k0 k1)
          have kd0 : wr.drew.cell? ⟨g, i, none⟩ = some (.int .i64 key) := k0
          have kd1 : wr.drew.cell? ⟨w.heap.size, 1, none⟩ = some (.int .i64 day) := k1
          have ka0 : ∀ x, (wr.alloc x).drew.cell? ⟨g, i, none⟩ = some (.int .i64 key) := fun x => keepF (Below.drew (newF wr x)) k0
          have ka1 : ∀ x, (wr.alloc x).drew.cell? ⟨w.heap.size, 1, none⟩ = some (.int .i64 day) := fun x => keepF (Below.drew (newF wr x)) k1
          have HBb := Lib.hid (And.intro (ltF k0) (ltF k1))
          clear k0 k1
          go_region_held3 (fun w' => w'.cell? ⟨g, i, none⟩ = some (.int .i64 key) ∧ w'.cell? ⟨w.heap.size, 1, none⟩ = some (.int .i64 day))
            (first | (with_reducible exact ⟨kd0, kd1⟩) | (with_reducible exact ⟨ka0 _, ka1 _⟩) | (with_reducible exact ⟨k0, k1⟩) | (with_reducible exact ⟨(new_same2 (ltF k0)).trans k0, (new_same2 (ltF k1)).trans k1⟩) | (with_reducible exact ⟨(set_two2 (Nat.ne_of_lt HBb.out.1)).trans k0, (set_two2 (Nat.ne_of_lt HBb.out.2)).trans k1⟩))
            (first | (go_at_call 15; (first | (with_reducible refine (HFx.out _ (HN0 _ b0).out).mono ?_) | (with_reducible refine (HFx.out _ (HN0 _ (b1 _)).out).mono ?_)); rintro e w3 ⟨rfl, hb3⟩; (first | (have HB3 : Hid (Below wr.heap.size wr w3) := Lib.hid (onF b0 hb3)) | (have HB3 : Hid (Below wr.heap.size wr w3) := Lib.hid (onF (b1 _) hb3); obtain ⟨v0, v1, z0, z1⟩ := zero_at2 hb3)); clear hb3; have k0 := keepF HB3.out HKc.out.1; have k1 := keepF HB3.out HKc.out.2))
          all_goals go_wp2
          all_goals go_meet
          · exact ⟨_, rfl, rfl, by rw [World.cell?_alloc_at _ _ _ _ rfl]; rfl, by rw [World.cell?_alloc_at _ _ _ _ rfl]; rfl, onF HB3.out (newF _ _)⟩
          · exact ⟨_, rfl, rfl, by rw [cell_other (fun e => by cases e), cell_same v0], by rw [cell_same ((cell_other (fun e => by cases e)).trans v1)], Below.setCell (Below.setCell HB3.out (Nat.le_refl _) _) (Nat.le_refl _) _⟩
        case rest =>
          obtain ⟨X, rfl, rfl, u0, u1, hbc⟩ := hcut
          have HNc := Lib.hid (HNr.out.keep hbc HsW.out)
          clear k0 k1 hbc HFx HNr HsW
          cases gi with
          | false =>
            have HNn := Lib.hid (HUp.out _ HNc.out rfl)
            clear HFk HRt HNc u0 u1
            cases s with
            | false =>
              go_wp2_with fail
              go_roundw
              case rel => exact ⟨i + 1, HLt.out, by go_num, by rw [HAl.out]; rfl, HNn.out⟩
              case measure => have := HLt.out; simp [RowKit.intOf]; omega
            | true =>
              go_wp2_with fail
              go_roundw
              case rel => exact ⟨i + 1, HLt.out, by go_num, by rw [HAl.out]; rfl, HNn.out⟩
              case measure => have := HLt.out; simp [RowKit.intOf]; omega
          | true =>
            have hx1 : I64 gx := ⟨by have := (HRt.out rfl).1.n0; omega, (HRt.out rfl).1.n1⟩
            have hy1 : I64 gy := ⟨by have := (HRt.out rfl).1.d0; omega, (HRt.out rfl).1.d1⟩
            have HNd := Lib.hid (HNc.out.keep (Below.drew (Below.refl _ _)) HNc.out.bel.size)
            obtain ⟨D, Dc', hm2, hr2⟩ := HNd.out.m2
            have HFi := Lib.hid (ffix_any wc.drew hm2 (by have := HLt.out; unfold maxLen; omega) key day gx gy HKi.out HD.out hx1 hy1)
            rw [(HRt.out rfl).2, if_pos rfl] at HFi
            have HMp := Lib.hid (hm2.isMp (row := some f2) (.inl rfl))
            have HRr := Lib.hid hr2
            have k0 := HCell.out _ HNd.out
            have k1 := HNd.out.q1
            have v0 : wc.drew.cell? ⟨X, 0, none⟩ = some (.int .i64 gx) := u0
            have v1 : wc.drew.cell? ⟨X, 1, none⟩ = some (.int .i64 gy) := u1
            clear hm2 hr2 hx1 hy1 HRt HNc u0 u1 HUp HCell HKi
            cases s with
            | false =>
              go_upto_region 21 with fail
              go_region_held3 (fun w' => w'.cell? ⟨g, i, none⟩ = some (.int .i64 key) ∧ w'.cell? ⟨w.heap.size, 1, none⟩ = some (.int .i64 day) ∧ w'.cell? ⟨X, 0, none⟩ = some (.int .i64 gx) ∧ w'.cell? ⟨X, 1, none⟩ = some (.int .i64 gy))
                (first | (with_reducible exact ⟨k0, k1, v0, v1⟩) | (with_reducible exact ⟨j0, j1, j2, j3⟩))
                ((go_at_call 16; refine HFi.out.mono ?_; rintro e w6 ⟨rfl, hm6, hg6⟩; have HN6 := Lib.hid (HFk.out _ _ HNd.out rfl _ _ hm6 ⟨_, HRr.out, rfl⟩ hg6); have j0 := cell_mpk HMp.out hg6 k0; have j1 := cell_mpk HMp.out hg6 k1; have j2 := cell_mpk HMp.out hg6 v0; have j3 := cell_mpk HMp.out hg6 v1; clear hm6 hg6 k0 k1 v0 v1))
              clear j0 j1 j2 j3 HFi
              go_wp2_with fail
              go_roundw
              case rel => exact ⟨i + 1, HLt.out, by go_num, by rw [HAl.out]; rfl, HN6.out⟩
              case measure => have := HLt.out; simp [RowKit.intOf]; omega
            | true =>
              go_upto_region 21 with fail
              go_region_held3 (fun w' => w'.cell? ⟨g, i, none⟩ = some (.int .i64 key) ∧ w'.cell? ⟨w.heap.size, 1, none⟩ = some (.int .i64 day) ∧ w'.cell? ⟨X, 0, none⟩ = some (.int .i64 gx) ∧ w'.cell? ⟨X, 1, none⟩ = some (.int .i64 gy))
                (first | (with_reducible exact ⟨k0, k1, v0, v1⟩) | (with_reducible exact ⟨j0, j1, j2, j3⟩))
                ((go_at_call 16; refine HFi.out.mono ?_; rintro e w6 ⟨rfl, hm6, hg6⟩; have HN6 := Lib.hid (HFk.out _ _ HNd.out rfl _ _ hm6 ⟨_, HRr.out, rfl⟩ hg6); have j0 := cell_mpk HMp.out hg6 k0; have j1 := cell_mpk HMp.out hg6 k1; have j2 := cell_mpk HMp.out hg6 v0; have j3 := cell_mpk HMp.out hg6 v1; clear hm6 hg6 k0 k1 v0 v1))
              clear j0 j1 j2 j3 HFi
              go_wp2_with fail
              go_roundw
              case rel => exact ⟨i + 1, HLt.out, by go_num, by rw [HAl.out]; rfl, HN6.out⟩
              case measure => have := HLt.out; simp [RowKit.intOf]; omega
      · have hie : i = ks.length := by omega
        subst hie
        have p1 : ¬ (ks.length : Int) < (ks.length : Int) := by omega
        rw [List.take_length]
        obtain ⟨D, Dc', hm2, hr2⟩ := hN.m2
        rw [List.take_length] at hr2
        have hA := (HE.out day).2.2
        have HVa := Lib.hid (HVf.out wr hN.bel hN.m1 HRel.out.1 HRel.out.2.1)
        have HVb := Lib.hid (fun (w' : World) (hb : Below wr.heap.size wr w') => HVf.out w' (onF hN.bel hb) (hm2.keep hb) hr2 (smL_ok HRel.out.2.1 day ks))
        rw [(HE.out day).1, (HE.out day).2.1] at HVb
        have HB7 := Lib.hid hN.bel
        have HQ7 := Lib.hid (And.intro hN.q0 hN.q1)
        have y0 := hN.q0
        have y1 := hN.q1
        generalize atE t (plF L) (n : Int) day = E at *
        have hA2 : E = 0 → allN (plF L) day ks = true → vB (atV t (plF L) (n : Int) day) = true := hA
        generalize vB (atV t (plF L) (n : Int) day) = vb at *
        generalize vN (atV t (plF L) (n : Int) day) = vn at *
        generalize vD (atV t (plF L) (n : Int) day) = vd at *
        generalize allN (plF L) day ks = s at *
        have HA := Lib.hid hA2
        clear hA hA2 hm2 hr2 hN hlt hi HNr HE HVf HKI HRel HKl q64
        go_wp2_with fail
        refine HVa.out.mono ?_
        rintro e w8 ⟨rfl, hb8⟩
        have hb9 := onF hb8 (newF w8 (.cells #[.bool vb, .int .i64 vn, .int .i64 vd] 45))
        have z0 := keepF hb9 HQ7.out.1
        have z1 := keepF hb9 HQ7.out.2
        have a0 : (w8.alloc (.cells #[.bool vb, .int .i64 vn, .int .i64 vd] 45)).cell? ⟨w8.heap.size, 0, none⟩ = some (.bool vb) := by rw [World.cell?_alloc_at _ _ _ _ rfl]; rfl
        have a1 : (w8.alloc (.cells #[.bool vb, .int .i64 vn, .int .i64 vd] 45)).cell? ⟨w8.heap.size, 1, none⟩ = some (.int .i64 vn) := by rw [World.cell?_alloc_at _ _ _ _ rfl]; rfl
        have a2 : (w8.alloc (.cells #[.bool vb, .int .i64 vn, .int .i64 vd] 45)).cell? ⟨w8.heap.size, 2, none⟩ = some (.int .i64 vd) := by rw [World.cell?_alloc_at _ _ _ _ rfl]; rfl
        have HX := Lib.hid (And.intro a0 (And.intro a1 a2))
        have HB9 := Lib.hid hb9
        have HV9 := Lib.hid (HVb.out _ hb9)
        clear hb8 hb9 HVa HVb y0 y1 a0 a1 a2
        go_wp2_with fail
        refine HV9.out.mono ?_
        rintro e w10 ⟨rfl, hb10⟩
        have hb11 := onF hb10 (newF w10 (.cells #[.bool vb, .int .i64 vn, .int .i64 vd] 45))
        have a0 := keepF hb11 HX.out.1
        have a1 := keepF hb11 HX.out.2.1
        have a2 := keepF hb11 HX.out.2.2
        have HB11 := Lib.hid (onF HB7.out (onF HB9.out hb11))
        have HAz := Lib.hid (HAw.out _ HB11.out)
        clear hb10 hb11 HV9 HX z0 z1 HB9 HB7 HQ7
        by_cases hE : E = 0
        · subst hE
          cases vb with
          | true =>
            go_wp2_with fail
            refine HAz.out.mono ?_
            rintro e wz ⟨rfl, hbz⟩
            have HBz := Lib.hid (onF HB11.out hbz)
            clear hbz a0 a1 a2
            go_wp2_with fail
            go_ret
            exact ⟨rfl, HBz.out⟩
          | false =>
            have hs : s = false := by
              cases s with
              | false => rfl
              | true => exact absurd (HA.out rfl rfl) (by decide)
            subst hs
            go_wp2_with fail
            refine HAz.out.mono ?_
            rintro e wz ⟨rfl, hbz⟩
            have HBz := Lib.hid (onF HB11.out hbz)
            clear hbz a0 a1 a2
            go_wp2_with fail
            go_ret
            exact ⟨rfl, HBz.out⟩
        · have hE1 : (E != 0) = true := bne_iff_ne.2 hE
          have hE2 : (E == 0) = false := beq_false_of_ne hE
          clear hE
          go_wp2_with fail
          refine HAz.out.mono ?_
          rintro e wz ⟨rfl, hbz⟩
          have HBz := Lib.hid (onF HB11.out hbz)
          clear hbz a0 a1 a2
          go_wp2_with fail
          go_ret
          exact ⟨rfl, HBz.out⟩

end Go.Proofs.YtfkaliammmpcfaaDoor

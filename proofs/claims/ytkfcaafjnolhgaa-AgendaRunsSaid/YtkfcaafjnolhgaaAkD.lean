/-
  chattelref11: Move; chattellaw11.same: what they answer.
-/
import Derived.Test.YtkfcaafjnolhgaaAkC
namespace Go.Proofs.Ytkfcaafjnolhgaa
open Go.RowKit Go.Lib Go.Maps Go.Sort Go.Shelf
set_option linter.unusedVariables false
set_option linter.unusedSimpArgs false

variable {Av : Nat → Prop}
theorem inI_back {L : List It} {n : Nat} (hs : SrI L) (h : NoS L n) {x : It} (hx : x ∈ L) : inI x (noI x.no L) = L := by
  refine srI_uniq (inI_srt (noI_srt hs) (fun y hy => ((noI_mem _ _ _).1 hy).2)) hs (fun y => ?_)
  rw [inI_mem, noI_mem]
  constructor
  · rintro (rfl | h)
    · exact hx
    · exact h.1
  · intro hy
    by_cases e : y.no = x.no
    · exact .inl (h.1 y hy x hx e)
    · exact .inr ⟨hy, e⟩
theorem RgV.drew2 {w : World} {r n : Nat} {v : Value} {L : List It} (h : RgV Av w r v L n) : RgV Av w.drew r v L n := h.keep (Below.drew (Below.refl _ _))
theorem new_item (w : World) (x : It) : ∃ W : World, W = w.alloc (.cells #[.int .i64 x.d, .int .i64 x.no, .int .i64 x.tag] 37) ∧ Below w.heap.size w W ∧ W.heap.size = w.heap.size + 1 ∧ W.cell? ⟨w.heap.size, 0, none⟩ = some (.int .i64 x.d) ∧ W.cell? ⟨w.heap.size, 1, none⟩ = some (.int .i64 x.no) ∧ W.cell? ⟨w.heap.size, 2, none⟩ = some (.int .i64 x.tag) ∧ (∀ k, W.frozen? ⟨w.heap.size, k, none⟩ = false) :=
  ⟨_, rfl, newF _ _, by simp, (World.cell?_alloc_at _ _ _ _ rfl).trans rfl, (World.cell?_alloc_at _ _ _ _ rfl).trans rfl, (World.cell?_alloc_at _ _ _ _ rfl).trans rfl, fun k => World.frozen?_alloc_at _ _ _ _ rfl⟩
set_option maxRecDepth 100000 in
set_option maxHeartbeats 8000000 in
theorem rmove_any (w : World) {r n : Nat} {v : Value} {L : List It} (h : RgV Av w r v L n) (hA : ∀ k, Av k → k < w.heap.size) (hs : SrI L) (hns : NoS L n) (hl : L.length ≤ 500) (no d : Int) : Calls Try.prog 15 #[.pointer (some ⟨r, 0, none⟩), .int .i64 no, .int .i64 d] w fun e w' => e = .returned (.int .i64 (moveZ no d L n).e) ∧ (∃ v', RgV Av w' r v' (moveZ no d L n).L n) ∧ Off (fun k => k = r) w w' := by
  have hD := rdrop_any w h hA hns hl no
  have hRl := h.lt
  have HAv := Lib.hid hA
  clear hA
  have HLe := Lib.hid hl
  rcases find_no (L := L) (no := no) with ⟨x, e, hx, hn⟩ | ⟨e, hno⟩
  · have e1 : dropZ no L n = ⟨x, 0, noI no L, n⟩ := by unfold dropZ; rw [e]
    have e2 : moveZ no d L n = if 0 ≤ d ∧ d ≤ 73048 then ⟨zI, 0, inI ⟨d, no, x.tag⟩ (noI no L), n⟩ else ⟨zI, 18, L, n⟩ := by unfold moveZ; rw [e]
    rw [e1] at hD
    rw [e2]
    have hbk : inI x (noI no L) = L := by rw [← hn]; exact inI_back hs hns hx
    have HBk := Lib.hid hbk
    have HNl := Lib.hid (show (noI no L).length ≤ 500 from Nat.le_trans (noI_len _ _) hl)
    have HD := Lib.hid hD
    have HRl := Lib.hid hRl
    have HXn := Lib.hid hn
    unfold itV at HD
    dsimp only at HD
    clear e e1 e2 hbk hD hx hn hs hns h hl hRl
    by_cases hd : 0 ≤ d ∧ d ≤ 73048
    · rw [if_pos hd]
      obtain ⟨d0, d1⟩ := hd
      dsimp only
      go_enter Try.func15, Try.ntmps15
      go_wp2_with fail
      refine HD.out.mono ?_
      rintro e w1 ⟨rfl, ⟨v1, hr1⟩, ho1⟩
      obtain ⟨W2, e2, hb2, hz2, x0, x1, x2, xf⟩ := new_item w1 x
      have HE := Lib.hid e2
      have HR1 := Lib.hid hr1
      have HO1 := Lib.hid ho1
      have HB2 := Lib.hid hb2
      have HZ2 := Lib.hid hz2
      have HX := Lib.hid (And.intro x0 (And.intro x1 x2))
      have f0 := xf 0
      clear e2 hr1 ho1 hb2 hz2 xf x1 x2 HD
      go_upto_region 2 with fail
      rw [← HE.out]
      clear HE
      go_upto_region 8 with fail
      have hW3 := Off.set W2 w1.heap.size 0 (.int .i64 d)
      have hr1l := HR1.out.lt
      have HR3 := Lib.hid ((HR1.out.keep HB2.out).off hW3 (fun e => by omega) (fun b o m c e hne e' => by
        rcases HR1.out.row with ⟨h0, _⟩ | ⟨_, b2, o2, c2, h1, _, _, h4⟩
        · exact hne h0
        · rw [e] at h1; injection h1 with h1 _ _; injection h1 with h1; injection h1 with h1 _ _
          have := ltF (h4 0 (List.length_pos_iff.2 hne) 0 _ (by decide) rfl)
          omega))
      have y0 : (W2.setCell ⟨w1.heap.size, 0, none⟩ (.int .i64 d)).cell? ⟨w1.heap.size, 0, none⟩ = some (.int .i64 d) := cell_same HX.out.1
      have y1 : (W2.setCell ⟨w1.heap.size, 0, none⟩ (.int .i64 d)).cell? ⟨w1.heap.size, 1, none⟩ = some (.int .i64 no) := (cell_other (addr_ne_off (by decide))).trans (by rw [← HXn.out]; exact HX.out.2.1)
      have y2 : (W2.setCell ⟨w1.heap.size, 0, none⟩ (.int .i64 d)).cell? ⟨w1.heap.size, 2, none⟩ = some (.int .i64 x.tag) := (cell_other (addr_ne_off (by decide))).trans HX.out.2.2
      have hO3 : Off (fun k => k = r) w (W2.setCell ⟨w1.heap.size, 0, none⟩ (.int .i64 d)) := HO1.out.trans ((Off.of (F := fun k => k = w1.heap.size) HB2.out).both hW3) (fun k e => .inr (by rw [e]; exact HO1.out.size))
      have HO3 := Lib.hid hO3
      clear hW3 x0 f0 hr1l hO3
      generalize W2.setCell ⟨w1.heap.size, 0, none⟩ (.int .i64 d) = W3 at *
      obtain ⟨a3, c3, rfl⟩ := HR3.out.row.slice
      have HQ := Lib.hid (rin_any W3.drew (noI no L) (by have := HNl.out; omega) _ HR3.out.drew2.row ⟨d, no, x.tag⟩)
      dsimp only at HQ
      have c0 : W3.drew.cell? ⟨r, 0, none⟩ = some _ := HR3.out.c0
      have f0 : W3.drew.frozen? ⟨r, 0, none⟩ = false := HR3.out.f0
      have y0 : W3.drew.cell? ⟨w1.heap.size, 0, none⟩ = some (.int .i64 d) := y0
      have y1 : W3.drew.cell? ⟨w1.heap.size, 1, none⟩ = some (.int .i64 no) := y1
      have y2 : W3.drew.cell? ⟨w1.heap.size, 2, none⟩ = some (.int .i64 x.tag) := y2
      go_region_with (go_at_call 27; (with_reducible refine HQ.out.mono ?_); rintro e w4 ⟨v', rfl, ho, hb⟩; obtain ⟨sa, sc, rfl⟩ := ho.slice; have HR4 := Lib.hid (HR3.out.drew2.keep hb); have HO4 := Lib.hid ho; have HB4 := Lib.hid hb; clear ho hb; have c0 := HR4.out.c0; have c1 := HR4.out.c1; have f0 := HR4.out.f0; have f1 := HR4.out.f1)
      all_goals
        have HR5 := Lib.hid (HR4.out.put (HO4.out.row (E := itL) (k := 3) itL_len) (own_av HO4.out (fun k hk => Nat.lt_of_lt_of_le (HAv.out k hk) HO3.out.size)))
        have HB4u := Lib.hid (undrewB HB4.out)
        go_wp2_with fail
        go_ret
        exact ⟨rfl, ⟨_, HR5.out⟩, HO3.out.both ((Off.of HB4u.out).both (Off.set w4 r 0 _))⟩
    · rw [if_neg hd]
      have hdd : d < 0 ∨ (¬ d < 0 ∧ 73048 < d) := by omega
      clear hd
      dsimp only
      rcases hdd with d0 | ⟨d0, d1⟩
      · go_enter Try.func15, Try.ntmps15
        go_wp2_with fail
        refine HD.out.mono ?_
        rintro e w1 ⟨rfl, ⟨v1, hr1⟩, ho1⟩
        obtain ⟨W3, e2, hb2, hz2, x0, x1, x2, xf⟩ := new_item w1 x
        have HE := Lib.hid e2
        have HR3 := Lib.hid (hr1.keep hb2)
        have HO3 := Lib.hid (ho1.both (Off.of hb2))
        have y0 : W3.drew.cell? ⟨w1.heap.size, 0, none⟩ = some (.int .i64 x.d) := x0
        have y1 : W3.drew.cell? ⟨w1.heap.size, 1, none⟩ = some (.int .i64 x.no) := x1
        have y2 : W3.drew.cell? ⟨w1.heap.size, 2, none⟩ = some (.int .i64 x.tag) := x2
        clear e2 hr1 ho1 hb2 hz2 xf x0 x1 x2 HD
        go_upto_region 2 with fail
        rw [← HE.out]
        clear HE
        obtain ⟨a3, c3, rfl⟩ := HR3.out.row.slice
        have HQ := Lib.hid (rin_any W3.drew (noI no L) (by have := HNl.out; omega) _ HR3.out.drew2.row x)
        have c0 : W3.drew.cell? ⟨r, 0, none⟩ = some _ := HR3.out.c0
        have f0 : W3.drew.frozen? ⟨r, 0, none⟩ = false := HR3.out.f0
        go_upto_region 5 with fail
        go_region_with (go_at_call 27; (with_reducible refine HQ.out.mono ?_); rintro e w4 ⟨v', rfl, ho, hb⟩; obtain ⟨sa, sc, rfl⟩ := ho.slice; have HR4 := Lib.hid (HR3.out.drew2.keep hb); have HO4 := Lib.hid ho; have HB4 := Lib.hid hb; clear ho hb; have c0 := HR4.out.c0; have c1 := HR4.out.c1; have f0 := HR4.out.f0; have f1 := HR4.out.f1)
        all_goals
          have HR5 := Lib.hid (HR4.out.put (HO4.out.row (E := itL) (k := 3) itL_len) (own_av HO4.out (fun k hk => Nat.lt_of_lt_of_le (HAv.out k hk) HO3.out.size)))
          have HB4u := Lib.hid (undrewB HB4.out)
          go_wp2_with fail
          go_ret
          exact ⟨rfl, ⟨_, Eq.mp (congrArg (fun z => RgV Av (w4.setCell ⟨r, 0, none⟩ (.slice sa (inI x (noI no L)).length sc)) r (.slice sa (inI x (noI no L)).length sc) z n) HBk.out) HR5.out⟩, HO3.out.both ((Off.of HB4u.out).both (Off.set w4 r 0 _))⟩
      · go_enter Try.func15, Try.ntmps15
        go_wp2_with fail
        refine HD.out.mono ?_
        rintro e w1 ⟨rfl, ⟨v1, hr1⟩, ho1⟩
        obtain ⟨W3, e2, hb2, hz2, x0, x1, x2, xf⟩ := new_item w1 x
        have HE := Lib.hid e2
        have HR3 := Lib.hid (hr1.keep hb2)
        have HO3 := Lib.hid (ho1.both (Off.of hb2))
        have y0 : W3.drew.cell? ⟨w1.heap.size, 0, none⟩ = some (.int .i64 x.d) := x0
        have y1 : W3.drew.cell? ⟨w1.heap.size, 1, none⟩ = some (.int .i64 x.no) := x1
        have y2 : W3.drew.cell? ⟨w1.heap.size, 2, none⟩ = some (.int .i64 x.tag) := x2
        clear e2 hr1 ho1 hb2 hz2 xf x0 x1 x2 HD
        go_upto_region 2 with fail
        rw [← HE.out]
        clear HE
        obtain ⟨a3, c3, rfl⟩ := HR3.out.row.slice
        have HQ := Lib.hid (rin_any W3.drew (noI no L) (by have := HNl.out; omega) _ HR3.out.drew2.row x)
        have c0 : W3.drew.cell? ⟨r, 0, none⟩ = some _ := HR3.out.c0
        have f0 : W3.drew.frozen? ⟨r, 0, none⟩ = false := HR3.out.f0
        go_upto_region 5 with fail
        go_region_with (go_at_call 27; (with_reducible refine HQ.out.mono ?_); rintro e w4 ⟨v', rfl, ho, hb⟩; obtain ⟨sa, sc, rfl⟩ := ho.slice; have HR4 := Lib.hid (HR3.out.drew2.keep hb); have HO4 := Lib.hid ho; have HB4 := Lib.hid hb; clear ho hb; have c0 := HR4.out.c0; have c1 := HR4.out.c1; have f0 := HR4.out.f0; have f1 := HR4.out.f1)
        all_goals
          have HR5 := Lib.hid (HR4.out.put (HO4.out.row (E := itL) (k := 3) itL_len) (own_av HO4.out (fun k hk => Nat.lt_of_lt_of_le (HAv.out k hk) HO3.out.size)))
          have HB4u := Lib.hid (undrewB HB4.out)
          go_wp2_with fail
          go_ret
          exact ⟨rfl, ⟨_, Eq.mp (congrArg (fun z => RgV Av (w4.setCell ⟨r, 0, none⟩ (.slice sa (inI x (noI no L)).length sc)) r (.slice sa (inI x (noI no L)).length sc) z n) HBk.out) HR5.out⟩, HO3.out.both ((Off.of HB4u.out).both (Off.set w4 r 0 _))⟩
  · have e1 : dropZ no L n = ⟨zI, 16, L, n⟩ := by unfold dropZ; rw [e]
    have e2 : moveZ no d L n = ⟨zI, 16, L, n⟩ := by unfold moveZ; rw [e]
    rw [e1] at hD
    rw [e2]
    have HD := Lib.hid hD
    unfold itV zI at HD
    dsimp only at HD ⊢
    clear e e1 e2 hD hno hs hns h hl
    go_enter Try.func15, Try.ntmps15
    go_wp2_with fail
    refine HD.out.mono ?_
    rintro e w1 ⟨rfl, ⟨v1, hr1⟩, ho1⟩
    have HR1 := Lib.hid hr1
    have HO1 := Lib.hid ho1
    clear hr1 ho1
    go_wp2_with fail
    go_ret
    exact ⟨rfl, ⟨_, HR1.out.keep (newF _ _)⟩, HO1.out.both (Off.of (newF _ _))⟩

set_option maxRecDepth 100000 in
set_option maxHeartbeats 4000000 in
theorem same11_any (w : World) {L : List It} (hl : L.length ≤ 500) {a b : Value} (ha : RowX itL 3 w a L) (hb : RowX itL 3 w b L) : Calls Try.prog 17 #[a, b] w fun e w' => e = .returned (.bool true) ∧ Below w.heap.size w w' := by
  obtain ⟨a1, c1, rfl⟩ := ha.slice
  obtain ⟨a2, c2, rfl⟩ := hb.slice
  have HA := Lib.hid ha
  have HB := Lib.hid hb
  have q0 : ((L.length : Int) != (L.length : Int)) = false := by simp
  have l5 : (L.length : Int) ≤ 500 := by omega
  clear ha hb hl
  go_enter Try.func17, Try.ntmps17
  go_wp2_with fail
  go_loopw [5] (fun vi wx => ∃ i : Nat, i ≤ L.length ∧ vi = .int .i64 (i : Nat) ∧ Below w.heap.size w wx) (fun vi _ => L.length - (RowKit.intOf vi).toNat)
  case atStart => exact ⟨0, Nat.zero_le _, rfl, Below.refl _ _⟩
  case round =>
    obtain ⟨i, hi, rfl, hbr⟩ := hrel
    have HBr := Lib.hid hbr
    clear hbr
    by_cases hlt : i < L.length
    · have i0 : (0 : Int) ≤ (i : Int) := by omega
      have i1 : (i : Int) < (L.length : Int) := by omega
      have HLt := Lib.hid hlt
      obtain ⟨g, o, ha, hc1, hc2, hC⟩ : ∃ g o, a1 = some ⟨g, o, none⟩ ∧ L.length ≤ c1 ∧ c1 ≤ 9223372036854775807 ∧ ItC w g o L := by
        rcases HA.out with ⟨e, _⟩ | ⟨_, g, o, c, h1, h2, h3, h4⟩
        · rw [e] at hlt; exact absurd hlt (Nat.not_lt_zero _)
        · injection h1 with e1 _ e3
          subst e1 e3
          exact ⟨g, o, rfl, h2, h3, fun j hj => ⟨h4 j hj 0 _ (by omega) rfl, h4 j hj 1 _ (by omega) rfl, h4 j hj 2 _ (by omega) rfl⟩⟩
      obtain ⟨g2, o2, ha2, hd1, hd2, hD⟩ : ∃ g o, a2 = some ⟨g, o, none⟩ ∧ L.length ≤ c2 ∧ c2 ≤ 9223372036854775807 ∧ ItC w g o L := by
        rcases HB.out with ⟨e, _⟩ | ⟨_, g, o, c, h1, h2, h3, h4⟩
        · rw [e] at hlt; exact absurd hlt (Nat.not_lt_zero _)
        · injection h1 with e1 _ e3
          subst e1 e3
          exact ⟨g, o, rfl, h2, h3, fun j hj => ⟨h4 j hj 0 _ (by omega) rfl, h4 j hj 1 _ (by omega) rfl, h4 j hj 2 _ (by omega) rfl⟩⟩
      subst ha ha2
      obtain ⟨y0, y1, y2⟩ := (hC.keep HBr.out) i hlt
      obtain ⟨z0, z1, z2⟩ := (hD.keep HBr.out) i hlt
      generalize L.getD i default = y at *
      have e0 : (y.d == y.d) = true := by simp
      have e1 : (y.no == y.no) = true := by simp
      have e2 : (y.tag == y.tag) = true := by simp
      clear hlt hi hC hD
      go_wp2_with fail
      go_quiet (fail)
      go_wp2_with fail
      go_roundw
      case rel => exact ⟨i + 1, HLt.out, by go_num, onF HBr.out (below_drewA _ _)⟩
      case measure => have := HLt.out; simp [RowKit.intOf]; omega
    · obtain rfl : i = L.length := by omega
      clear hlt hi
      go_wp2_with fail
      go_ret
      exact ⟨rfl, HBr.out⟩

end Go.Proofs.Ytkfcaafjnolhgaa

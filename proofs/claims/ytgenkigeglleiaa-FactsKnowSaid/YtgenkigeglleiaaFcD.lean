/-
  chattellaw07: awake, Made: what they answer.
-/
import Derived.Test.YtgenkigeglleiaaFcC
namespace Go.Proofs.Ytgenkigeglleiaa
open Go.RowKit Go.Lib Go.Maps
set_option linter.unusedVariables false
set_option linter.unusedSimpArgs false

theorem keepF {w w' : World} {b i : Nat} {v : Value} (hb : Below w.heap.size w w') (h : w.cell? ⟨b, i, none⟩ = some v) : w'.cell? ⟨b, i, none⟩ = some v := (hb.cell (p := ⟨b, i, none⟩) (ltF h)).trans h
theorem plk_ok {k d : Int} (hk : I64 k) (hd : I64 d) : WideAt.IsKeyLit (plk k d) := plc_law.key (plc_key hk hd)
theorem plk_ne {a b c d : Int} (ha : I64 a) (hb : I64 b) (hc : I64 c) (hd : I64 d) (h : ¬ (a = c ∧ b = d)) : plk a b ≠ plk c d := fun e => h (plk_inj ha hb hc hd e)
theorem i64_mk {a : Int} (h1 : -9223372036854775808 ≤ a) (h2 : a ≤ 9223372036854775807) : I64 a := ⟨h1, h2⟩
theorem ratD_inj {a b c d : Int} (h : ratD a b = ratD c d) : a = c ∧ b = d := by
  unfold ratD at h
  injection h with h
  injection h with h1 h2
  injection h2 with h2 _
  injection h1 with h1
  injection h1 with _ h1
  injection h2 with h2
  injection h2 with _ h2
  exact ⟨h1, h2⟩
theorem intD_inj {a c : Int} (h : intD a = intD c) : a = c := by
  unfold intD at h
  injection h with h
  injection h with _ h
theorem fix_awake : fixE 3 10 5 2 = 0 := by decide
set_option maxHeartbeats 2000000 in
set_option maxRecDepth 100000 in
theorem awake7_any (w : World) : Calls Try.prog 10 #[] w fun e w' => e = .returned (.bool true) ∧ Below w.heap.size w w' := by
  have i3 : I64 3 := i64_mk (by decide) (by decide)
  have i10 : I64 10 := i64_mk (by decide) (by decide)
  have i11 : I64 11 := i64_mk (by decide) (by decide)
  have i5 : I64 5 := i64_mk (by decide) (by decide)
  have i2 : I64 2 := i64_mk (by decide) (by decide)
  have HNw := Lib.hid (fnew_any w)
  have HFx := Lib.hid (fun (w' : World) (B bf bc : Nat) (h : FacM w' B bf bc 0 (.map []) (.map [])) => ffix_any w' h (by decide) 3 10 5 2 i3 i10 i5 i2)
  have HGa := Lib.hid (fun (w' : World) (B bf bc : Nat) (D : DataW Unit) (h : FacM w' B bf bc 1 D (.map [])) => fixing_any w' h 3 10 i3 i10)
  have HGb := Lib.hid (fun (w' : World) (B bf bc : Nat) (D : DataW Unit) (h : FacM w' B bf bc 1 D (.map [])) => fixing_any w' h 3 11 i3 i11)
  rw [fix_awake, if_pos rfl] at HFx
  have HH : Hid (Maps.has ((DataW.map [] : DataW Unit).put (plk 3 10) (ratD 5 2)) (plk 3 10) = true ∧ ((DataW.map [] : DataW Unit).put (plk 3 10) (ratD 5 2)).atKey (plk 3 10) (ratD 0 0) = ratD 5 2 ∧ Maps.has ((DataW.map [] : DataW Unit).put (plk 3 10) (ratD 5 2)) (plk 3 11) = false) := Lib.hid ⟨has_put_same isMap_empty (plk_ok i3 i10) _, atKey_put_same isMap_empty (plk_ok i3 i10) _ _, (has_put_other (plk_ne i3 i11 i3 i10 (by decide)) _).trans rfl⟩
  generalize (DataW.map [] : DataW Unit).put (plk 3 10) (ratD 5 2) = D at *
  clear i3 i10 i11 i5 i2
  go_enter Try.func10, Try.ntmps10
  go_wp2_with fail
  refine (HNw.out).mono ?_
  rintro e w1 ⟨B, bf, bc, rfl, hm, hB, hbf, hbc, hb1⟩
  have HF1 := Lib.hid (HFx.out w1 B bf bc hm)
  have HS := Lib.hid (And.intro hB hbf)
  have HB1 := Lib.hid hb1
  clear hm hB hbf hbc hb1 HNw HFx
  go_wp2_with fail
  refine (HF1.out).mono ?_
  rintro e w2 ⟨rfl, hm, hg⟩
  have HB2 := Lib.hid (HB1.out.grown hg HB1.out.size (fun j hj => by cases hj; exact HS.out.2))
  have HM2 := Lib.hid hm
  have HA := Lib.hid (HGa.out w2 B bf bc D hm)
  clear hm hg HF1 HGa HB1
  go_wp2_with fail
  refine (HA.out).mono ?_
  rintro e w3 ⟨x, y, rfl, hx, hb3⟩
  rw [HH.out.2.1] at hx
  obtain ⟨rfl, rfl⟩ := ratD_inj hx
  have HB3 := Lib.hid (onF HB2.out hb3)
  have HM3 := Lib.hid (HM2.out.keep hb3)
  clear hx hb3 HA HM2 HB2
  rw [HH.out.1]
  go_wp2_with fail
  have v0 : (w3.alloc (.cells #[.int .i64 5, .int .i64 2] 29)).cell? ⟨w3.heap.size, 0, none⟩ = some (.int .i64 5) := by rw [World.cell?_alloc_at _ _ _ _ rfl]; rfl
  have v1 : (w3.alloc (.cells #[.int .i64 5, .int .i64 2] 29)).cell? ⟨w3.heap.size, 1, none⟩ = some (.int .i64 2) := by rw [World.cell?_alloc_at _ _ _ _ rfl]; rfl
  have hsz : w3.heap.size < (w3.alloc (.cells #[.int .i64 5, .int .i64 2] 29)).heap.size := by simp
  refine (HGb.out _ B bf bc D (HM3.out.keep (newF w3 _))).mono ?_
  rintro e w4 ⟨x, y, rfl, hx, hb4⟩
  have HB4 := Lib.hid (onF HB3.out (onF (newF w3 _) hb4))
  have u0 := keepF (newF w4 (.cells #[.int .i64 x, .int .i64 y] 29)) ((World.cell?_of_block (a := ⟨w3.heap.size, 0, none⟩) (hb4.block _ hsz)).trans v0)
  have u1 := keepF (newF w4 (.cells #[.int .i64 x, .int .i64 y] 29)) ((World.cell?_of_block (a := ⟨w3.heap.size, 1, none⟩) (hb4.block _ hsz)).trans v1)
  have HB5 := Lib.hid (onF HB4.out (newF w4 (.cells #[.int .i64 x, .int .i64 y] 29)))
  rw [HH.out.2.2]
  clear v0 v1 hsz hx hb4 HGb HM3 HB3 HB4
  go_upto_region 7 with fail
  generalize w4.alloc (.cells #[.int .i64 x, .int .i64 y] 29) = w5 at *
  go_wp2_with fail
  go_ret
  exact ⟨rfl, HB5.out⟩

/-- A fact that is told, in a row. -/
structure TolC (w : World) (b p : Nat) (t : Tol) : Prop where
  c0 : w.cell? ⟨b, p, none⟩ = some (.bool t.c)
  c1 : w.cell? ⟨b, p + 1, none⟩ = some (.int .i64 t.k)
  c2 : w.cell? ⟨b, p + 2, none⟩ = some (.int .i64 t.d)
  c3 : w.cell? ⟨b, p + 3, none⟩ = some (.int .i64 t.x)
  c4 : w.cell? ⟨b, p + 4, none⟩ = some (.int .i64 t.y)
  c5 : w.cell? ⟨b, p + 5, none⟩ = some (.int .i64 t.p)
theorem TolC.keep {w w' : World} {b p : Nat} {t : Tol} (h : TolC w b p t) (hb : Below w.heap.size w w') : TolC w' b p t :=
  ⟨keepF hb h.c0, keepF hb h.c1, keepF hb h.c2, keepF hb h.c3, keepF hb h.c4, keepF hb h.c5⟩
instance : Inhabited Tol := ⟨⟨false, 0, 0, 0, 0, 0⟩⟩
/-- A slice of facts that are told. -/
def SlTol (w : World) (v : Value) (L : List Tol) : Prop :=
  (L = [] ∧ ∃ a cap, v = .slice a 0 cap) ∨ (0 < L.length ∧ ∃ b o cap, v = .slice (some ⟨b, o, none⟩) L.length cap ∧ L.length ≤ cap ∧ cap ≤ 9223372036854775807 ∧ ∀ j, j < L.length → TolC w b (o + j * 6) (L.getD j default))
theorem SlTol.keep {w w' : World} {v : Value} {L : List Tol} (h : SlTol w v L) (hb : Below w.heap.size w w') : SlTol w' v L := by
  rcases h with h | ⟨h0, b, o, cap, h1, h2, h3, h4⟩
  · exact .inl h
  · exact .inr ⟨h0, b, o, cap, h1, h2, h3, fun j hj => (h4 j hj).keep hb⟩
/-- What is known, when all was told. -/
noncomputable def mkF (L : List Tol) : DataW Unit := L.foldl (fun D t => tolF t D) (.map [])
noncomputable def mkC (L : List Tol) : DataW Unit := L.foldl (fun D t => tolC t D) (.map [])
theorem mkF_snoc (L : List Tol) (t : Tol) : mkF (L ++ [t]) = tolF t (mkF L) := by unfold mkF; rw [List.foldl_append]; rfl
theorem mkC_snoc (L : List Tol) (t : Tol) : mkC (L ++ [t]) = tolC t (mkC L) := by unfold mkC; rw [List.foldl_append]; rfl
theorem take_getD {L : List Tol} {i : Nat} (h : i < L.length) : L.take (i + 1) = L.take i ++ [L.getD i default] := by
  rw [List.take_add_one, List.getElem?_eq_getElem h, List.getD_eq_getElem?_getD, List.getElem?_eq_getElem h]; rfl
set_option maxHeartbeats 2000000 in
set_option maxRecDepth 100000 in
theorem made_any (w : World) (v : Value) (L : List Tol) (h : SlTol w v L) (hok : ∀ j, j < L.length → (L.getD j default).Ok) :
    Calls Try.prog 16 #[v] w fun e w' => ∃ B bf bc, e = .returned (.pointer (some ⟨B, 0, none⟩)) ∧ FacM w' B bf bc L.length (mkF L) (mkC L) ∧ w.heap.size ≤ B ∧ w.heap.size ≤ bf ∧ w.heap.size ≤ bc ∧ Below w.heap.size w w' := by
  have HNw := Lib.hid (fnew_any w)
  rcases h with ⟨rfl, a, cap, rfl⟩ | ⟨h0, b, o, cap, rfl, hc1, hc2, hT⟩
  · go_enter Try.func16, Try.ntmps16
    go_wp2_with fail
    refine (HNw.out).mono ?_
    rintro e w1 ⟨B, bf, bc, rfl, hm, hB, hbf, hbc, hb1⟩
    have HM := Lib.hid hm
    have HS := Lib.hid (And.intro hB (And.intro hbf (And.intro hbc hb1)))
    clear hm hB hbf hbc hb1 HNw
    go_wp2_with fail
    refine wp_loop_rounds 1 ?_
    rw [rounds_succ]
    go_wp2_with fail
    go_ret
    exact ⟨B, bf, bc, rfl, HM.out, HS.out⟩
  · have HT := Lib.hid hT
    have HOk := Lib.hid hok
    clear hT hok
    go_enter Try.func16, Try.ntmps16
    go_wp2_with fail
    refine (HNw.out).mono ?_
    rintro e w1 ⟨B, bf, bc, rfl, hm, hB, hbf, hbc, hb1⟩
    have HM := Lib.hid hm
    have HS := Lib.hid (And.intro hB (And.intro hbf hbc))
    have HB1 := Lib.hid hb1
    clear hm hB hbf hbc hb1 HNw
    go_wp2_with fail
    go_loopw [4] (fun vi wx => ∃ i : Nat, i ≤ L.length ∧ vi = .int .i64 (i : Nat) ∧ FacM wx B bf bc i (mkF (L.take i)) (mkC (L.take i)) ∧ Below w.heap.size w wx) (fun vi _ => L.length - (RowKit.intOf vi).toNat)
    case atStart => exact ⟨0, Nat.zero_le _, rfl, HM.out, HB1.out⟩
    case round =>
      obtain ⟨i, hi, rfl, hm, hb⟩ := hrel
      have HMr := Lib.hid hm
      have HBr := Lib.hid hb
      clear hm hb HM HB1
      by_cases hlt : i < L.length
      · have p0 : (0 : Int) ≤ (i : Int) := by omega
        have p1 : (i : Int) < (L.length : Int) := by omega
        have HTl := Lib.hid (tell_any wr HMr.out (by unfold maxLen; omega) (L.getD i default) (HOk.out i hlt))
        obtain ⟨k0, k1, k2, k3, k4, k5⟩ := (HT.out i hlt).keep HBr.out
        have HLt := Lib.hid hlt
        have HSn := Lib.hid (take_getD hlt)
        unfold tolV at HTl
        generalize L.getD i default = t at *
        obtain ⟨tc, tk, td, tx, ty, tp⟩ := t
        dsimp only at k0 k1 k2 k3 k4 k5 HTl
        clear hlt
        go_wp2_with fail
        refine (HTl.out).mono ?_
        rintro e w2 ⟨rfl, row, hm, hg, hrow⟩
        have HM2 := Lib.hid hm
        have HB2 := Lib.hid (HBr.out.grown hg HBr.out.size (fun j hj => by rcases hrow with h | h <;> (rw [h] at hj; cases hj); exact HS.out.2.1; exact HS.out.2.2))
        clear hm hg hrow HTl HMr HBr k0 k1 k2 k3 k4 k5
        go_wp2_with fail
        go_roundw
        case rel => exact ⟨i + 1, HLt.out, by go_num, by rw [HSn.out, mkF_snoc, mkC_snoc]; exact HM2.out, HB2.out⟩
        case measure => have := HLt.out; simp [RowKit.intOf]; omega
      · have hie : i = L.length := by omega
        subst hie
        rw [List.take_length] at HMr
        have p1 : ¬ (L.length : Int) < (L.length : Int) := by omega
        go_wp2_with fail
        go_ret
        exact ⟨B, rfl, bf, bc, HMr.out, HS.out.1, HS.out.2.1, HS.out.2.2, HBr.out⟩

end Go.Proofs.Ytgenkigeglleiaa

/-
  chattellaw08: awake; facts that are told, as lists whose ratios may be.
-/
import Derived.Test.YtfkaliammmpcfaaGreatDoorVlG
import Derived.Test.YtfkaliammmpcfaaGreatDoorJnA
namespace Go.Proofs.YtfkaliammmpcfaaGreatDoor
open Go.RowKit Go.Lib Go.Shelf Go.Maps
set_option linter.unusedVariables false
set_option linter.unusedSimpArgs false

/-- The example's contract. -/
def tEx : List Nd := [⟨4, 0, 0, 0, 0⟩, ⟨2, 3, 0, 0, 0⟩, ⟨1, 0, 0, 1, 2⟩]
def lEx : List Fct := [⟨3, 10, 2, 1, 0⟩]
theorem tEx_of : ofK tEx = (1, 0) := by
  rw [ofK_yes (by decide) (by decide) ?_ ?_ (by decide)]
  · rfl
  · intro p hp
    have hp' : p < 3 := hp
    rcases (show p = 0 ∨ p = 1 ∨ p = 2 by omega) with rfl | rfl | rfl <;> decide
  · intro p hp
    have hp' : p < 3 := hp
    unfold SrtA
    rcases (show p = 0 ∨ p = 1 ∨ p = 2 by omega) with rfl | rfl | rfl <;> decide
theorem tEx_wr : wrN tEx 0 = 0 := by
  unfold wrN
  rw [tEx_of, if_neg (by decide), if_neg (by decide), if_neg (by decide)]
theorem tEx_nm : NmA tEx 0 := (num_at (t := tEx) (n := 0) (by rw [tEx_of]) (by decide) (by decide)).1
theorem tEx_nm1 : NmA tEx 1 := (NmA.in (szA tEx 0) 0 (Nat.le_refl _) tEx_nm 1 (by decide) (by decide)).1
theorem tEx_nm2 : NmA tEx 2 := (NmA.in (szA tEx 0) 0 (Nat.le_refl _) tEx_nm 2 (by decide) (by decide)).1
theorem tEx_vl (fx : Int → Option Rat) : vlA tEx fx 0 = twoV 4 (some (fx 3)) (some (some (rat 1 2))) := by
  rw [vl_two tEx_nm (by decide)]
  have e0 : plA tEx (0 + 1) 0 = 1 := by decide
  have e1 : plA tEx (0 + 1) 1 = 2 := by decide
  rw [e0, e1, vl_fix tEx_nm1 (by decide), vl_num tEx_nm2 (by decide)]
  rfl
theorem lEx_10 : fxL lEx 10 3 = some (rat 2 1) := by
  have e : gtL lEx 3 10 = (2, 1, true) := by decide
  unfold fxL
  rw [e]; rfl
theorem lEx_11 : fxL lEx 11 3 = none := by
  have e : gtL lEx 3 11 = (0, 0, false) := by decide
  unfold fxL
  rw [e]; rfl
theorem five_half : fitsR (rat 2 1 + rat 1 2) = true ∧ (rat 2 1 + rat 1 2).num = 5 ∧ (rat 2 1 + rat 1 2).den = 2 := by decide +kernel
theorem ex_10 : vB (atV tEx lEx 0 10) = true ∧ vN (atV tEx lEx 0 10) = 5 ∧ vD (atV tEx lEx 0 10) = 2 ∧ atE tEx lEx 0 10 = 0 := by
  have e : vlA tEx (fxL lEx 10) (0 : Int).toNat = some (some (rat 2 1 + rat 1 2)) := by
    show vlA tEx (fxL lEx 10) 0 = _
    rw [tEx_vl, lEx_10]
    show fitQ (rat 2 1 + rat 1 2) = _
    unfold fitQ
    rw [if_pos five_half.1]
  unfold atV atE
  rw [tEx_wr, if_neg (by decide), if_neg (by decide), if_neg (by decide), if_neg (by decide), e]
  refine ⟨rfl, five_half.2.1, ?_, rfl⟩
  show (((rat 2 1 + rat 1 2).den : Nat) : Int) = 2
  rw [five_half.2.2]; rfl
theorem ex_11 : vB (atV tEx lEx 0 11) = false ∧ vN (atV tEx lEx 0 11) = 0 ∧ vD (atV tEx lEx 0 11) = 0 ∧ atE tEx lEx 0 11 = 0 := by
  have e : vlA tEx (fxL lEx 11) (0 : Int).toNat = some none := by
    show vlA tEx (fxL lEx 11) 0 = _
    rw [tEx_vl, lEx_11]; rfl
  unfold atV atE
  rw [tEx_wr, if_neg (by decide), if_neg (by decide), if_neg (by decide), if_neg (by decide), e]
  exact ⟨rfl, rfl, rfl, rfl⟩
theorem ndA_lit {w : World} {b : Nat} {t : List Nd} (h : w.ownsRow 0 47 5 (.slice (some ⟨b, 0, none⟩) t.length t.length) t.length (ndR t)) : SlT w (.slice (some ⟨b, 0, none⟩) t.length t.length) t := OwnN.sl h

/-- The lists of what is told hold ratios that may be. -/
theorem plF_ok (L : List Tol) (hok : ∀ t ∈ L, t.Ok) : OkL (plF L) := by
  have key : ∀ (L : List Tol), (∀ t ∈ L, t.Ok) → ∀ a, OkL a → OkL (L.foldl (fun a t => if t.c = true then a else if tolE t = 0 then putL a ⟨t.k, t.d, t.x, t.y, 0⟩ else a) a) := by
    intro L
    induction L with
    | nil => exact fun _ a h => h
    | cons x L ih =>
      intro hL a h
      rw [List.foldl_cons]
      refine ih (fun t ht => hL t (by simp [ht])) _ ?_
      by_cases hc : x.c = true
      · rw [if_pos hc]; exact h
      · rw [if_neg hc]
        by_cases he : tolE x = 0
        · rw [if_pos he]
          intro t ht
          rcases mem_put.1 ht with rfl | ⟨ht, _⟩
          · obtain ⟨_, _, hx, hy, _⟩ := hL x (by simp)
            unfold tolE at he
            rw [if_neg hc] at he
            unfold fixE at he
            by_cases hp : plcE x.k x.d = 0
            · rw [if_pos hp] at he
              exact chkE_zero he hx.1 hx.2 hy.2
            · rw [if_neg hp] at he; exact absurd he hp
          · exact h t ht
        · rw [if_neg he]; exact h
  exact key L hok [] (fun t h => by cases h)
theorem ok_mem {L : List Tol} (h : ∀ j, j < L.length → (L.getD j default).Ok) : ∀ t ∈ L, t.Ok := fun t ht => by
  obtain ⟨i, hi, rfl⟩ := List.mem_iff_getElem.1 ht
  have := h i hi
  rw [List.getD_eq_getElem?_getD, List.getElem?_eq_getElem hi] at this
  exact this
set_option maxRecDepth 100000 in
set_option maxHeartbeats 4000000 in
theorem awake8_any (w : World) (C : KndW w) : Calls Tryz.prog 4 #[] w fun e w' => e = .returned (.bool true) ∧ Below w.heap.size w w' := by
  have i3 : I64 3 := i64_mk (by decide) (by decide)
  have i10 : I64 10 := i64_mk (by decide) (by decide)
  have i2 : I64 2 := i64_mk (by decide) (by decide)
  have i1 : I64 1 := i64_mk (by decide) (by decide)
  have HNw := Lib.hid (fnew_any w)
  have HFx := Lib.hid (fun (w' : World) (B bf bc : Nat) (h : FacM w' B bf bc 0 (.map []) (.map [])) => ffix_any w' h (by decide) 3 10 2 1 i3 i10 i2 i1)
  have hfe : fixE 3 10 2 1 = 0 := by decide
  rw [hfe, if_pos rfl] at HFx
  have hrel : RelV vR ((DataW.map [] : DataW Unit).put (plk 3 10) (ratD 2 1)) lEx := (RelV.start vR).put ⟨3, 10, 2, 1, 0⟩ i3 i10
  have hokl : OkL lEx := fun t ht => by
    have : t = ⟨3, 10, 2, 1, 0⟩ := by simpa [lEx] using ht
    subst this
    exact ⟨by decide, by decide, by decide, by decide, by decide⟩
  have hbd : BdT tEx := fun p hp => by
    have hp' : p < 3 := hp
    rcases (show p = 0 ∨ p = 1 ∨ p = 2 by omega) with rfl | rfl | rfl <;> exact ⟨⟨by decide, by decide⟩, ⟨by decide, by decide⟩⟩
  have HAt := Lib.hid (fun (w' : World) (v : Value) (B bf bc n : Nat) (Dc : DataW Unit) (hs : SlT w' v tEx) (hC : KndW w') (hm : FacM w' B bf bc n ((DataW.map [] : DataW Unit).put (plk 3 10) (ratD 2 1)) Dc) (day : Int) => vat_any tEx (by decide) hbd v w' hs hC 0 day hm hrel hokl)
  have HC := Lib.hid C
  clear C i3 i10 i2 i1 hfe hrel hokl hbd
  generalize (DataW.map [] : DataW Unit).put (plk 3 10) (ratD 2 1) = D at *
  go_enter Tryz.func4, Tryz.ntmps4
  go_wp2_with fail
  refine (HNw.out).mono ?_
  rintro e w1 ⟨B, bf, bc, rfl, hm, hB, hbf, hbc, hb1⟩
  have HF1 := Lib.hid (HFx.out w1 B bf bc hm)
  have HS := Lib.hid (And.intro hB (And.intro hbf hbc))
  have HB1 := Lib.hid hb1
  clear hm hB hbf hbc hb1 HNw HFx
  go_wp2_with fail
  refine (HF1.out).mono ?_
  rintro e w2 ⟨rfl, hm, hg⟩
  have HB2 := Lib.hid (HB1.out.grown hg HB1.out.size (fun j hj => by cases hj; exact HS.out.2.1))
  have HM2 := Lib.hid hm
  clear hm hg HF1 HB1
  have hlit : SlT (w2.alloc (.cells #[.int .i64 4, .int .i64 0, .int .i64 0, .int .i64 0, .int .i64 0, .int .i64 2, .int .i64 3, .int .i64 0, .int .i64 0, .int .i64 0, .int .i64 1, .int .i64 0, .int .i64 0, .int .i64 1, .int .i64 2] 47)) (.slice (some ⟨w2.heap.size, 0, none⟩) 3 3) tEx := by
    refine .inr ⟨by decide, w2.heap.size, 0, 3, rfl, by decide, by decide, fun j hj => ?_⟩
    have hj' : j < 3 := hj
    rcases (show j = 0 ∨ j = 1 ∨ j = 2 by omega) with rfl | rfl | rfl
    all_goals refine ⟨?_, ?_, ?_, ?_, ?_⟩
    all_goals rw [World.cell?_alloc_at _ _ _ _ rfl]; rfl
  have HA1 := Lib.hid (HAt.out _ _ B bf bc _ _ hlit ((HC.out.keep HB2.out).keep (newF w2 _)) (HM2.out.keep (newF w2 _)) 10)
  rw [ex_10.1, ex_10.2.1, ex_10.2.2.1, ex_10.2.2.2] at HA1
  have HL := Lib.hid hlit
  have HB3 := Lib.hid (onF HB2.out (newF w2 (.cells #[.int .i64 4, .int .i64 0, .int .i64 0, .int .i64 0, .int .i64 0, .int .i64 2, .int .i64 3, .int .i64 0, .int .i64 0, .int .i64 0, .int .i64 1, .int .i64 0, .int .i64 0, .int .i64 1, .int .i64 2] 47)))
  have HM3 := Lib.hid (HM2.out.keep (newF w2 (.cells #[.int .i64 4, .int .i64 0, .int .i64 0, .int .i64 0, .int .i64 0, .int .i64 2, .int .i64 3, .int .i64 0, .int .i64 0, .int .i64 0, .int .i64 1, .int .i64 0, .int .i64 0, .int .i64 1, .int .i64 2] 47)))
  clear hlit
  go_wp2_with fail
  refine (HA1.out).mono ?_
  rintro e w4 ⟨rfl, hb4⟩
  have HB4 := Lib.hid (onF HB3.out (onF hb4 (newF w4 (.cells #[.bool true, .int .i64 5, .int .i64 2] 31))))
  have hb5 := onF hb4 (newF w4 (.cells #[.bool true, .int .i64 5, .int .i64 2] 31))
  have HA2 := Lib.hid (HAt.out _ _ B bf bc _ _ (HL.out.keep hb5) (HC.out.keep HB4.out) (HM3.out.keep hb5) 11)
  rw [ex_11.1, ex_11.2.1, ex_11.2.2.1, ex_11.2.2.2] at HA2
  have v0 : (w4.alloc (.cells #[.bool true, .int .i64 5, .int .i64 2] 31)).cell? ⟨w4.heap.size, 0, none⟩ = some (.bool true) := by rw [World.cell?_alloc_at _ _ _ _ rfl]; rfl
  have v1 : (w4.alloc (.cells #[.bool true, .int .i64 5, .int .i64 2] 31)).cell? ⟨w4.heap.size, 1, none⟩ = some (.int .i64 5) := by rw [World.cell?_alloc_at _ _ _ _ rfl]; rfl
  have v2 : (w4.alloc (.cells #[.bool true, .int .i64 5, .int .i64 2] 31)).cell? ⟨w4.heap.size, 2, none⟩ = some (.int .i64 2) := by rw [World.cell?_alloc_at _ _ _ _ rfl]; rfl
  have HV := Lib.hid (And.intro v0 (And.intro v1 v2))
  clear hb4 hb5 HA1 HL HM3 HM2 v0 v1 v2
  go_wp2_with fail
  refine (HA2.out).mono ?_
  rintro e w6 ⟨rfl, hb6⟩
  have HB6 := Lib.hid (onF HB4.out (onF hb6 (newF w6 (.cells #[.bool false, .int .i64 0, .int .i64 0] 31))))
  have u0 := keepF (newF w6 (.cells #[.bool false, .int .i64 0, .int .i64 0] 31)) (keepF hb6 HV.out.1)
  have u1 := keepF (newF w6 (.cells #[.bool false, .int .i64 0, .int .i64 0] 31)) (keepF hb6 HV.out.2.1)
  have u2 := keepF (newF w6 (.cells #[.bool false, .int .i64 0, .int .i64 0] 31)) (keepF hb6 HV.out.2.2)
  have x0 : (w6.alloc (.cells #[.bool false, .int .i64 0, .int .i64 0] 31)).cell? ⟨w6.heap.size, 0, none⟩ = some (.bool false) := by rw [World.cell?_alloc_at _ _ _ _ rfl]; rfl
  have x1 : (w6.alloc (.cells #[.bool false, .int .i64 0, .int .i64 0] 31)).cell? ⟨w6.heap.size, 1, none⟩ = some (.int .i64 0) := by rw [World.cell?_alloc_at _ _ _ _ rfl]; rfl
  have x2 : (w6.alloc (.cells #[.bool false, .int .i64 0, .int .i64 0] 31)).cell? ⟨w6.heap.size, 2, none⟩ = some (.int .i64 0) := by rw [World.cell?_alloc_at _ _ _ _ rfl]; rfl
  clear hb6 HV
  go_upto_region 8 with fail
  generalize w6.alloc (.cells #[.bool false, .int .i64 0, .int .i64 0] 31) = w7 at *
  go_wp2_with fail
  go_ret
  exact ⟨rfl, HB6.out⟩

end Go.Proofs.YtfkaliammmpcfaaGreatDoor

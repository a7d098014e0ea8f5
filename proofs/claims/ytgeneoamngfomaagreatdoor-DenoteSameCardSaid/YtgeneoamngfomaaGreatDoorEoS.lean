/-
  chattellaw09.DenoteBoth: what both of two contracts do, and one that begins at a day (no program).
-/
import Derived.Test.YtgeneoamngfomaaGreatDoorEG
import Derived.Test.YtgeneoamngfomaaGreatDoorVlK
import Derived.Test.YtgeneoamngfomaaGreatDoorEW
import Derived.Test.YtgeneoamngfomaaGreatDoorJnA
import Derived.Test.YtgeneoamngfomaaGreatDoorTrm
namespace Go.Proofs.YtgeneoamngfomaaGreatDoor
open Go.RowKit Go.Lib Go.Shelf Go.Maps
set_option linter.unusedVariables false
set_option linter.unusedSimpArgs false

theorem er_cases {t : List Nd} {lf lc : List Fct} {fr tu : Int} (hc : chkK t = 0) (hb : ¬ badD fr tu) :
    (dn t (envL lf lc) tu ⟨0, fr, 1⟩ = none → erD t lf lc fr tu = 11) ∧ ∀ r, dn t (envL lf lc) tu ⟨0, fr, 1⟩ = some r → erD t lf lc fr tu = 0 ∧ reD t lf lc fr tu = r := by
  refine ⟨fun h => ?_, fun r h => ⟨?_, ?_⟩⟩
  · unfold erD; rw [if_neg (by omega), if_neg hb, if_pos h]
  · unfold erD; rw [if_neg (by omega), if_neg hb, if_neg (by rw [h]; simp)]
  · unfold reD; rw [h]; rfl
theorem er_bad {t : List Nd} {lf lc : List Fct} {fr tu : Int} (hc : chkK t = 0) (hb : badD fr tu) : erD t lf lc fr tu = 18 := by unfold erD; rw [if_neg (by omega), if_pos hb]
def andN9 : Nd := ⟨12, 0, 0, 0, 0⟩
def whenN (a : Int) : Nd := ⟨14, a, 0, 0, 0⟩
end Go.Proofs.YtgeneoamngfomaaGreatDoor

namespace Go.Proofs.YtgeneoamngfomaaGreatDoor
open Go.RowKit Go.Lib Go.Shelf Go.Maps
set_option linter.unusedVariables false
set_option linter.unusedSimpArgs false

/-- Rows under a node, whole as they are: where they stand, and what they pay. -/
theorem rows_dn {n : Nd} {L : List (List Nd)} (hO : ∀ i, i < L.length → (ofK (L.getD i [])).2 = 0) (h0 : (ofK (n :: L.flatten)).2 = 0) (hc : cnO n.op = L.length) {i : Nat} (hi : i < L.length) (hk : kdC (ixO n.op) i = 2) :
    kid (n :: L.flatten) 0 i = offL L i ∧ CtA (L.getD i []) 0 ∧ ∀ (E : Env), E.Ok → ∀ (tu : Int), tu ≤ 73048 → ∀ (d : Int) (q : Rat), dn (n :: L.flatten) E tu ⟨kid (n :: L.flatten) 0 i, d, q⟩ = dn (L.getD i []) E tu ⟨0, d, q⟩ := by
  have hW : ∀ i, i < L.length → WholeT (L.getD i []) := fun i hi => (ofK_zero (hO i hi)).2.1
  have hki : kid (n :: L.flatten) 0 i = offL L i := ov_pl hW i (by omega)
  have k1 : CtA (n :: L.flatten) (kid (n :: L.flatten) 0 i) := kid_ct h0 (p := 0) (i := i) (by simp) (by show i < cnO n.op; omega) hk
  have hsz : szA (n :: L.flatten) (kid (n :: L.flatten) 0 i) = (L.getD i []).length := by rw [hki]; exact (ov_part hi (hW i hi)).2
  have hs : subT (n :: L.flatten) (kid (n :: L.flatten) 0 i) (szA (n :: L.flatten) (kid (n :: L.flatten) 0 i)) = L.getD i [] := by rw [hsz, hki]; exact ov_sub n hi
  have hI : Ins (n :: L.flatten) (kid (n :: L.flatten) 0 i) := ⟨h0, k1⟩
  have hp0 := ct_pos h0 k1
  have hop := hI.op (q := 0) hp0
  rw [hs] at hop
  refine ⟨hki, ⟨by omega, by rw [hop, Nat.add_zero]; exact k1.mc⟩, fun E hE tu hto d q => ?_⟩
  rw [dn_in h0 k1 hE hto d q, hs]

def oneR : List Nd := [⟨1, 0, 0, 1, 1⟩]
theorem oneR_of : ofK oneR = (1, 0) := by
  rw [ofK_yes (by decide) (by decide) ?_ ?_ (by decide)]
  · rfl
  · intro p hp
    have hp' : p < 1 := hp
    rcases (show p = 0 by omega) with rfl
    decide
  · intro p hp
    have hp' : p < 1 := hp
    unfold SrtA
    rcases (show p = 0 by omega) with rfl
    decide
theorem oneR_nm : NmA oneR 0 := (num_at (t := oneR) (n := 0) (by rw [oneR_of]) (by decide) (by decide)).1
theorem oneR_vl (fx : Int → Option Rat) : vlA oneR fx 0 = some (some 1) := by
  rw [vl_num oneR_nm (by decide)]
  show some (some (rat 1 1)) = _
  have : rat 1 1 = 1 := by decide +kernel
  rw [this]
def sclN : Nd := ⟨13, 0, 0, 0, 0⟩
/-- A contract times 1. -/
theorem same_scale {T : List Nd} (hT : (ofK T).2 = 0) (h0 : (ofK (sclN :: [oneR, T].flatten)).2 = 0) {E : Env} (hE : E.Ok) {tu : Int} (hto : tu ≤ 73048) (d : Int) {q : Rat} (hq : fitsR q = true) : dn (sclN :: [oneR, T].flatten) E tu ⟨0, d, q⟩ = dn T E tu ⟨0, d, q⟩ := by
  have hO : ∀ i, i < [oneR, T].length → (ofK ([oneR, T].getD i [])).2 = 0 := fun i hi => by
    have hi2 : i < 2 := hi
    rcases (show i = 0 ∨ i = 1 by omega) with rfl | rfl
    · show (ofK oneR).2 = 0
      rw [oneR_of]
    · exact hT
  obtain ⟨g1, g2, g3⟩ := rows_dn (n := sclN) hO h0 (show cnO 13 = 2 by decide) (i := 1) (by simp) (by decide)
  have hk0 : kid (sclN :: [oneR, T].flatten) 0 0 = offL [oneR, T] 0 := ov_pl (fun i hi => (ofK_zero (hO i hi)).2.1) 0 (by simp)
  have hv : vlA (sclN :: [oneR, T].flatten) (E.fx d) (kid (sclN :: [oneR, T].flatten) 0 0) = some (some 1) := by
    rw [hk0, ov_vl hO (i := 0) (by simp) (show mkO (opA oneR 0) = 1 by decide)]
    exact oneR_vl _
  have h2 : CtA (sclN :: [oneR, T].flatten) 0 := ⟨by simp, by show mkO 13 = 2; decide⟩
  by_cases hl : tu < d
  · rw [dn_late (x := ⟨0, d, q⟩) hl, dn_late (x := ⟨0, d, q⟩) hl]
  rw [dn_eq h0 hE hto h2 hl, stp_scale (by rfl)]
  dsimp only
  rw [hv]
  dsimp only
  rw [Rat.mul_one, if_pos hq]
  show cat nul (cat (dn (sclN :: [oneR, T].flatten) E tu ⟨kid (sclN :: [oneR, T].flatten) 0 1, d, q⟩) nul) = _
  rw [g3 E hE tu hto d q, cat_nul, nul_cat]
  rfl

def zerR : List Nd := [⟨9, 0, 0, 0, 0⟩]
theorem zerR_of : ofK zerR = (2, 0) := by
  rw [ofK_yes (by decide) (by decide) ?_ ?_ (by decide)]
  · rfl
  · intro p hp
    have hp' : p < 1 := hp
    rcases (show p = 0 by omega) with rfl
    decide
  · intro p hp
    have hp' : p < 1 := hp
    unfold SrtA
    rcases (show p = 0 by omega) with rfl
    decide
theorem zerR_dn {E : Env} (hE : E.Ok) {tu : Int} (hto : tu ≤ 73048) (d : Int) (q : Rat) : dn zerR E tu ⟨0, d, q⟩ = nul := by
  by_cases hl : tu < d
  · exact dn_late (x := ⟨0, d, q⟩) hl
  rw [dn_eq (by rw [zerR_of]) hE hto (x := ⟨0, d, q⟩) ⟨by show 0 < 1; decide, by show mkO 9 = 2; decide⟩ hl, stp_zero (show ¬ (10 ≤ opA zerR 0 ∧ opA zerR 0 ≤ 17) by decide)]
  rfl
/-- A contract with nothing. -/
theorem same_and {T : List Nd} (hT : (ofK T).2 = 0) (h0 : (ofK (andN9 :: [zerR, T].flatten)).2 = 0) {E : Env} (hE : E.Ok) {tu : Int} (hto : tu ≤ 73048) (d : Int) (q : Rat) : dn (andN9 :: [zerR, T].flatten) E tu ⟨0, d, q⟩ = dn T E tu ⟨0, d, q⟩ := by
  have hO : ∀ i, i < [zerR, T].length → (ofK ([zerR, T].getD i [])).2 = 0 := fun i hi => by
    have hi2 : i < 2 := hi
    rcases (show i = 0 ∨ i = 1 by omega) with rfl | rfl
    · show (ofK zerR).2 = 0
      rw [zerR_of]
    · exact hT
  obtain ⟨_, _, f3⟩ := rows_dn (n := andN9) hO h0 (show cnO 12 = 2 by decide) (i := 0) (by simp) (by decide)
  obtain ⟨_, _, g3⟩ := rows_dn (n := andN9) hO h0 (show cnO 12 = 2 by decide) (i := 1) (by simp) (by decide)
  have h2 : CtA (andN9 :: [zerR, T].flatten) 0 := ⟨by simp, by show mkO 12 = 2; decide⟩
  by_cases hl : tu < d
  · rw [dn_late (x := ⟨0, d, q⟩) hl, dn_late (x := ⟨0, d, q⟩) hl]
  rw [dn_eq h0 hE hto h2 hl, stp_and (by rfl)]
  show cat nul (cat (dn (andN9 :: [zerR, T].flatten) E tu ⟨kid _ 0 0, d, q⟩) (cat (dn (andN9 :: [zerR, T].flatten) E tu ⟨kid _ 0 1, d, q⟩) nul)) = _
  rw [f3 E hE tu hto d q, g3 E hE tu hto d q, cat_nul, nul_cat]
  show cat (dn zerR E tu ⟨0, d, q⟩) (dn T E tu ⟨0, d, q⟩) = _
  rw [zerR_dn hE hto, nul_cat]
/-- A contract at the day of its own. -/
theorem same_when {T : List Nd} (hT : (ofK T).2 = 0) (d : Int) (h0 : (ofK (whenN d :: [T].flatten)).2 = 0) {E : Env} (hE : E.Ok) {tu : Int} (hto : tu ≤ 73048) (q : Rat) : dn (whenN d :: [T].flatten) E tu ⟨0, d, q⟩ = dn T E tu ⟨0, d, q⟩ := by
  have hO : ∀ i, i < [T].length → (ofK ([T].getD i [])).2 = 0 := fun i hi => by
    cases (show i = 0 by simpa using hi)
    exact hT
  obtain ⟨_, _, f3⟩ := rows_dn (n := whenN d) hO h0 (show cnO 14 = 1 by decide) (i := 0) (by simp) (show kdC (ixO 14) 0 = 2 by decide)
  have h2 : CtA (whenN d :: [T].flatten) 0 := ⟨by simp, by show mkO 14 = 2; decide⟩
  by_cases hl : tu < d
  · rw [dn_late (x := ⟨0, d, q⟩) hl, dn_late (x := ⟨0, d, q⟩) hl]
  rw [dn_eq h0 hE hto h2 hl, stp_when (by rfl), if_pos (show (⟨0, d, q⟩ : Td).day ≤ aA (whenN d :: [T].flatten) 0 from Int.le_refl d)]
  show cat nul (cat (dn (whenN d :: [T].flatten) E tu ⟨kid _ 0 0, d, q⟩) nul) = _
  rw [f3 E hE tu hto d q, cat_nul, nul_cat]
  rfl

def nouR : List Nd := [⟨1, 0, 0, 0, 1⟩]
theorem nouR_of : ofK nouR = (1, 0) := by
  rw [ofK_yes (by decide) (by decide) ?_ ?_ (by decide)]
  · rfl
  · intro p hp
    have hp' : p < 1 := hp
    rcases (show p = 0 by omega) with rfl
    decide
  · intro p hp
    have hp' : p < 1 := hp
    unfold SrtA
    rcases (show p = 0 by omega) with rfl
    decide
theorem nouR_nm : NmA nouR 0 := (num_at (t := nouR) (n := 0) (by rw [nouR_of]) (by decide) (by decide)).1
theorem nouR_vl (fx : Int → Option Rat) : vlA nouR fx 0 = some (some 0) := by
  rw [vl_num nouR_nm (by decide)]
  show some (some (rat 0 1)) = _
  have : rat 0 1 = 0 := by decide +kernel
  rw [this]
def cndN : Nd := ⟨15, 0, 0, 0, 0⟩
/-- A condition over two numbers that are known, and two contracts. -/
theorem cond_dn {A B T U : List Nd} {v u : Rat} (hA : (ofK A).2 = 0) (hB : (ofK B).2 = 0) (hT : (ofK T).2 = 0) (hU : (ofK U).2 = 0) (mA : mkO (opA A 0) = 1) (mB : mkO (opA B 0) = 1) (vA : ∀ fx, vlA A fx 0 = some (some v)) (vB : ∀ fx, vlA B fx 0 = some (some u))
    (h0 : (ofK (cndN :: [A, B, T, U].flatten)).2 = 0) {E : Env} (hE : E.Ok) {tu : Int} (hto : tu ≤ 73048) (d : Int) (q : Rat) : dn (cndN :: [A, B, T, U].flatten) E tu ⟨0, d, q⟩ = dn (if v < u then T else U) E tu ⟨0, d, q⟩ := by
  have hO : ∀ i, i < [A, B, T, U].length → (ofK ([A, B, T, U].getD i [])).2 = 0 := fun i hi => by
    have hi2 : i < 4 := hi
    rcases (show i = 0 ∨ i = 1 ∨ i = 2 ∨ i = 3 by omega) with rfl | rfl | rfl | rfl
    · exact hA
    · exact hB
    · exact hT
    · exact hU
  obtain ⟨_, _, f3⟩ := rows_dn (n := cndN) hO h0 (show cnO 15 = 4 by decide) (i := 2) (by simp) (by decide)
  obtain ⟨_, _, g3⟩ := rows_dn (n := cndN) hO h0 (show cnO 15 = 4 by decide) (i := 3) (by simp) (by decide)
  have hW : ∀ i, i < [A, B, T, U].length → WholeT ([A, B, T, U].getD i []) := fun i hi => (ofK_zero (hO i hi)).2.1
  have hk0 : kid (cndN :: [A, B, T, U].flatten) 0 0 = offL [A, B, T, U] 0 := ov_pl hW 0 (by simp)
  have hk1 : kid (cndN :: [A, B, T, U].flatten) 0 1 = offL [A, B, T, U] 1 := ov_pl hW 1 (by simp)
  have hv : vlA (cndN :: [A, B, T, U].flatten) (E.fx d) (kid (cndN :: [A, B, T, U].flatten) 0 0) = some (some v) := by
    rw [hk0, ov_vl hO (i := 0) (by simp) mA]
    exact vA _
  have hu : vlA (cndN :: [A, B, T, U].flatten) (E.fx d) (kid (cndN :: [A, B, T, U].flatten) 0 1) = some (some u) := by
    rw [hk1, ov_vl hO (i := 1) (by simp) mB]
    exact vB _
  have h2 : CtA (cndN :: [A, B, T, U].flatten) 0 := ⟨by simp, by show mkO 15 = 2; decide⟩
  by_cases hl : tu < d
  · rw [dn_late (x := ⟨0, d, q⟩) hl, dn_late (x := ⟨0, d, q⟩) hl]
  rw [dn_eq h0 hE hto h2 hl, stp_cond (by rfl)]
  dsimp only
  rw [hv, hu]
  dsimp only
  by_cases c : v < u
  · rw [if_pos c, if_pos c]
    show cat nul (cat (dn (cndN :: [A, B, T, U].flatten) E tu ⟨kid _ 0 2, d, q⟩) nul) = _
    rw [f3 E hE tu hto d q, cat_nul, nul_cat]
    rfl
  · rw [if_neg c, if_neg c]
    show cat nul (cat (dn (cndN :: [A, B, T, U].flatten) E tu ⟨kid _ 0 3, d, q⟩) nul) = _
    rw [g3 E hE tu hto d q, cat_nul, nul_cat]
    rfl

end Go.Proofs.YtgeneoamngfomaaGreatDoor

namespace Go.Proofs.YtgeneoamngfomaaGreatDoor
open Go.RowKit Go.Lib Go.Shelf Go.Maps
set_option linter.unusedVariables false
set_option linter.unusedSimpArgs false

theorem chk_ct {t : List Nd} (h : chkK t = 0) : (ofK t).2 = 0 ∧ mkO (opA t 0) = 2 := by
  unfold chkK at h
  by_cases c : (ofK t).2 = 0
  · rw [if_neg (by omega)] at h
    have e := ofK_mk c
    by_cases d : (ofK t).1 = 2
    · refine ⟨c, ?_⟩
      rw [e] at d
      exact d
    · rw [if_neg d] at h; cases h
  · rw [if_pos c] at h; exact absurd h c
theorem chk_of_mk {t : List Nd} (e : ofK t = (2, 0)) : chkK t = 0 := by
  unfold chkK; rw [e]; rfl
/-- Two contracts that do the same bring the same. -/
theorem er_same {t u : List Nd} {lf lc : List Fct} {fr tu : Int} (ht : chkK t = 0) (hu : chkK u = 0) (h : tu ≤ 73048 → dn t (envL lf lc) tu ⟨0, fr, 1⟩ = dn u (envL lf lc) tu ⟨0, fr, 1⟩) :
    erD t lf lc fr tu = erD u lf lc fr tu ∧ (erD u lf lc fr tu = 0 → reD t lf lc fr tu = reD u lf lc fr tu) := by
  by_cases hb : badD fr tu
  · rw [er_bad ht hb, er_bad hu hb]
    exact ⟨rfl, fun h => by cases h⟩
  · have e := h (by unfold badD at hb; omega)
    unfold erD reD
    rw [e, ht, hu]
    exact ⟨rfl, fun _ => rfl⟩
def hdS (d : Int) : Nat → List Nd
  | 0 => [sclN, ⟨1, 0, 0, 1, 1⟩]
  | 1 => [andN9, ⟨9, 0, 0, 0, 0⟩]
  | 2 => [whenN d]
  | 3 => [cndN, ⟨1, 0, 0, 1, 1⟩, ⟨1, 0, 0, 0, 1⟩, ⟨9, 0, 0, 0, 0⟩]
  | _ => [cndN, ⟨1, 0, 0, 1, 1⟩, ⟨1, 0, 0, 1, 1⟩, ⟨9, 0, 0, 0, 0⟩]
theorem fldW (d : Int) (h0 : 0 ≤ d) (h1 : d ≤ 73048) : fldO (whenN d) = true := by
  show (fldA (ixO 14) (whenN d) && fldB (ixO 14) (whenN d) && fldV (ixO 14) (whenN d)) = true
  have hi : ixO 14 = 14 := by decide
  rw [hi]
  unfold fldA fldB fldV whenN
  have e : maN 14 = 73048 := by decide
  have e2 : mbN 14 = 0 := by decide
  have e3 : vlB 14 = false := by decide
  simp [e, e2, e3, h0, h1]
/-- A node over rows that may be, none of them too deep, may be. -/
theorem head_of {n : Nd} {L : List (List Nd)} (hO : ∀ i, i < L.length → (ofK (L.getD i [])).2 = 0 ∧ mkO (opA (L.getD i []) 0) = kdC (ixO n.op) i ∧ dpA (L.getD i []) 0 ≤ 11) (hm : mkO n.op = 2) (hc : cnO n.op = L.length) (hf : fldO n = true) (hl : (n :: L.flatten).length ≤ 64) : chkK (n :: L.flatten) = 0 ∧ (ofK (n :: L.flatten)).2 = 0 := by
  have e := (ov_of (fun i hi => (hO i hi).1) (by omega) hc (fun i hi => (hO i hi).2.1) hf hl).2.1 (mxN_le _ (fun i hi => (hO i hi).2.2))
  rw [hm] at e
  exact ⟨chk_of_mk e, by rw [e]⟩
theorem oneR_dp : dpA oneR 0 ≤ 11 := by decide
theorem nouR_dp : dpA nouR 0 ≤ 11 := by decide
theorem zerR_dp : dpA zerR 0 ≤ 11 := by decide
theorem heads_same {T : List Nd} (hT : chkK T = 0) (hl : T.length ≤ 40) (hd : dpA T 0 ≤ 11) {fr : Int} (f0 : 0 ≤ fr) (f1 : fr ≤ 73048) {lf lc : List Fct} (hof : OkL lf) (hoc : ∀ x ∈ lc, x.p = 1 ∨ x.p = 2) (tu : Int) (i : Nat) (hi : i < 5) :
    erD (hdS fr i ++ T) lf lc fr tu = erD T lf lc fr tu ∧ (erD T lf lc fr tu = 0 → reD (hdS fr i ++ T) lf lc fr tu = reD T lf lc fr tu) := by
  obtain ⟨t1, t2⟩ := chk_ct hT
  have hE := env_okL hof hoc
  have o1 := oneR_of
  have o2 := nouR_of
  have o3 := zerR_of
  rcases (show i = 0 ∨ i = 1 ∨ i = 2 ∨ i = 3 ∨ i = 4 by omega) with rfl | rfl | rfl | rfl | rfl
  · have e : hdS fr 0 ++ T = sclN :: [oneR, T].flatten := by simp [hdS, oneR]
    rw [e]
    obtain ⟨c1, c2⟩ := head_of (n := sclN) (L := [oneR, T]) (fun i hi => by
      have hi2 : i < 2 := hi
      rcases (show i = 0 ∨ i = 1 by omega) with rfl | rfl
      · exact ⟨by show (ofK oneR).2 = 0; rw [o1], (show mkO (opA oneR 0) = kdC (ixO 13) 0 by decide), oneR_dp⟩
      · exact ⟨t1, t2.trans (show 2 = kdC (ixO 13) 1 by decide), hd⟩) (by decide) (show cnO 13 = 2 by decide) (by decide) (by simp [oneR]; omega)
    exact er_same c1 hT (fun h => same_scale t1 c2 hE h fr (by decide +kernel))
  · have e : hdS fr 1 ++ T = andN9 :: [zerR, T].flatten := by simp [hdS, zerR]
    rw [e]
    obtain ⟨c1, c2⟩ := head_of (n := andN9) (L := [zerR, T]) (fun i hi => by
      have hi2 : i < 2 := hi
      rcases (show i = 0 ∨ i = 1 by omega) with rfl | rfl
      · exact ⟨by show (ofK zerR).2 = 0; rw [o3], (show mkO (opA zerR 0) = kdC (ixO 12) 0 by decide), zerR_dp⟩
      · exact ⟨t1, t2.trans (show 2 = kdC (ixO 12) 1 by decide), hd⟩) (by decide) (show cnO 12 = 2 by decide) (by decide) (by simp [zerR]; omega)
    exact er_same c1 hT (fun h => same_and t1 c2 hE h fr 1)
  · have e : hdS fr 2 ++ T = whenN fr :: [T].flatten := by simp [hdS]
    rw [e]
    obtain ⟨c1, c2⟩ := head_of (n := whenN fr) (L := [T]) (fun i hi => by
      have hi2 : i < 1 := hi
      rcases (show i = 0 by omega) with rfl
      exact ⟨t1, t2.trans (show 2 = kdC (ixO 14) 0 by decide), hd⟩) (by show mkO 14 = 2; decide) (by show cnO 14 = 1; decide) (fldW fr f0 f1) (by simp; omega)
    exact er_same c1 hT (fun h => same_when t1 fr c2 hE h 1)
  · have e : hdS fr 3 ++ T = cndN :: [oneR, nouR, zerR, T].flatten := by simp [hdS, oneR, nouR, zerR]
    rw [e]
    obtain ⟨c1, c2⟩ := head_of (n := cndN) (L := [oneR, nouR, zerR, T]) (fun i hi => by
      have hi2 : i < 4 := hi
      rcases (show i = 0 ∨ i = 1 ∨ i = 2 ∨ i = 3 by omega) with rfl | rfl | rfl | rfl
      · exact ⟨by show (ofK oneR).2 = 0; rw [o1], (show mkO (opA oneR 0) = kdC (ixO 15) 0 by decide), oneR_dp⟩
      · exact ⟨by show (ofK nouR).2 = 0; rw [o2], (show mkO (opA nouR 0) = kdC (ixO 15) 1 by decide), nouR_dp⟩
      · exact ⟨by show (ofK zerR).2 = 0; rw [o3], (show mkO (opA zerR 0) = kdC (ixO 15) 2 by decide), zerR_dp⟩
      · exact ⟨t1, t2.trans (show 2 = kdC (ixO 15) 3 by decide), hd⟩) (by decide) (show cnO 15 = 4 by decide) (by decide) (by simp [oneR, nouR, zerR]; omega)
    exact er_same c1 hT (fun h => by
      rw [cond_dn (v := 1) (u := 0) (by rw [o1]) (by rw [o2]) (by rw [o3]) t1 (by decide) (by decide) oneR_vl nouR_vl c2 hE h fr 1, if_neg (by decide)])
  · have e : hdS fr 4 ++ T = cndN :: [oneR, oneR, zerR, T].flatten := by simp [hdS, oneR, zerR]
    rw [e]
    obtain ⟨c1, c2⟩ := head_of (n := cndN) (L := [oneR, oneR, zerR, T]) (fun i hi => by
      have hi2 : i < 4 := hi
      rcases (show i = 0 ∨ i = 1 ∨ i = 2 ∨ i = 3 by omega) with rfl | rfl | rfl | rfl
      · exact ⟨by show (ofK oneR).2 = 0; rw [o1], (show mkO (opA oneR 0) = kdC (ixO 15) 0 by decide), oneR_dp⟩
      · exact ⟨by show (ofK oneR).2 = 0; rw [o1], (show mkO (opA oneR 0) = kdC (ixO 15) 1 by decide), oneR_dp⟩
      · exact ⟨by show (ofK zerR).2 = 0; rw [o3], (show mkO (opA zerR 0) = kdC (ixO 15) 2 by decide), zerR_dp⟩
      · exact ⟨t1, t2.trans (show 2 = kdC (ixO 15) 3 by decide), hd⟩) (by decide) (show cnO 15 = 4 by decide) (by decide) (by simp [oneR, zerR]; omega)
    exact er_same c1 hT (fun h => by
      rw [cond_dn (v := 1) (u := 1) (by rw [o1]) (by rw [o1]) (by rw [o3]) t1 (by decide) (by decide) oneR_vl oneR_vl c2 hE h fr 1, if_neg (by decide)])
/-- Behind a condition that does not hold. -/
def hdZ (T : List Nd) : List Nd := [cndN, ⟨1, 0, 0, 1, 1⟩, ⟨1, 0, 0, 0, 1⟩] ++ T ++ [⟨9, 0, 0, 0, 0⟩]
theorem head_none {T : List Nd} (hT : chkK T = 0) (hl : T.length ≤ 40) (hd : dpA T 0 ≤ 11) {fr : Int} (f0 : 0 ≤ fr) (f1 : fr ≤ 73048) {lf lc : List Fct} (hof : OkL lf) (hoc : ∀ x ∈ lc, x.p = 1 ∨ x.p = 2) (tu : Int) :
    ((tu < -1 ∨ 73048 < tu) → erD (hdZ T) lf lc fr tu = 18 ∧ erD T lf lc fr tu = 18) ∧ (¬ (tu < -1 ∨ 73048 < tu) → erD (hdZ T) lf lc fr tu = 0 ∧ reD (hdZ T) lf lc fr tu = ([], [])) := by
  obtain ⟨t1, t2⟩ := chk_ct hT
  have hE := env_okL hof hoc
  have o1 := oneR_of
  have o2 := nouR_of
  have o3 := zerR_of
  have e : hdZ T = cndN :: [oneR, nouR, T, zerR].flatten := by simp [hdZ, oneR, nouR, zerR]
  rw [e]
  obtain ⟨c1, c2⟩ := head_of (n := cndN) (L := [oneR, nouR, T, zerR]) (fun i hi => by
    have hi2 : i < 4 := hi
    rcases (show i = 0 ∨ i = 1 ∨ i = 2 ∨ i = 3 by omega) with rfl | rfl | rfl | rfl
    · exact ⟨by show (ofK oneR).2 = 0; rw [o1], (show mkO (opA oneR 0) = kdC (ixO 15) 0 by decide), oneR_dp⟩
    · exact ⟨by show (ofK nouR).2 = 0; rw [o2], (show mkO (opA nouR 0) = kdC (ixO 15) 1 by decide), nouR_dp⟩
    · exact ⟨t1, t2.trans (show 2 = kdC (ixO 15) 2 by decide), hd⟩
    · exact ⟨by show (ofK zerR).2 = 0; rw [o3], (show mkO (opA zerR 0) = kdC (ixO 15) 3 by decide), zerR_dp⟩) (by decide) (show cnO 15 = 4 by decide) (by decide) (by simp [oneR, nouR, zerR]; omega)
  refine ⟨fun h => ?_, fun h => ?_⟩
  · have hb : badD fr tu := by unfold badD; omega
    exact ⟨er_bad c1 hb, er_bad hT hb⟩
  · have hb : ¬ badD fr tu := by unfold badD; omega
    refine (er_cases c1 hb).2 _ ?_
    have htu : tu ≤ 73048 := by omega
    rw [cond_dn (v := 1) (u := 0) (by rw [o1]) (by rw [o2]) t1 (by rw [o3]) (by decide) (by decide) oneR_vl nouR_vl c2 hE htu fr 1, if_neg (by decide)]
    exact zerR_dn hE htu fr 1

end Go.Proofs.YtgeneoamngfomaaGreatDoor

namespace Go.Proofs.YtgeneoamngfomaaGreatDoor
open Go.RowKit Go.Lib Go.Shelf Go.Maps
set_option linter.unusedVariables false
set_option linter.unusedSimpArgs false

theorem rdep_sl (t : List Nd) (hL : t.length ≤ 1000) (hT : TmA t 0) (v : Value) (w : World) (hv : SlT w v t) :
    Calls Tryz.prog 18 #[v, .int .i64 0] w fun e w' => e = .returned (.int .i64 (dpA t 0 : Nat)) ∧ Below w.heap.size w w' := by
  rcases hv with ⟨rfl, _⟩ | ⟨_, b, o, cap, rfl, hc1, hc2, hN⟩
  · have := hT.bd
    simp at this
    omega
  · exact rdep_ok t hL b o cap hc1 0 hT w hN
theorem bdS_nil : BdT [] := fun p hp => absurd hp (Nat.not_lt_zero p)
theorem bdS_cons {n : Nd} {t : List Nd} (h1 : I64T n.num) (h2 : I64T n.den) (h : BdT t) : BdT (n :: t) := fun p hp => by
  cases p with
  | zero => exact ⟨h1, h2⟩
  | succ p => exact h p (by simpa using hp)
theorem bdS_app {t u : List Nd} (h : BdT t) (h' : BdT u) : BdT (t ++ u) := fun p hp => by
  rw [List.getD_eq_getElem?_getD]
  by_cases c : p < t.length
  · rw [List.getElem?_append_left c, ← List.getD_eq_getElem?_getD]; exact h p c
  · rw [List.getElem?_append_right (by omega), ← List.getD_eq_getElem?_getD]
    exact h' _ (by rw [List.length_append] at hp; omega)
theorem i0T : I64T 0 := ⟨by show (-9223372036854775808 : Int) ≤ 0; decide, by show (0 : Int) ≤ 9223372036854775807; decide⟩
theorem i1T : I64T 1 := ⟨by show (-9223372036854775808 : Int) ≤ 1; decide, by show (1 : Int) ≤ 9223372036854775807; decide⟩
theorem bd_hdS (d : Int) (i : Nat) : BdT (hdS d i) := by
  match i with
  | 0 => exact bdS_cons i0T i0T (bdS_cons i1T i1T bdS_nil)
  | 1 => exact bdS_cons i0T i0T (bdS_cons i0T i0T bdS_nil)
  | 2 => exact bdS_cons i0T i0T bdS_nil
  | 3 => exact bdS_cons i0T i0T (bdS_cons i1T i1T (bdS_cons i0T i1T (bdS_cons i0T i0T bdS_nil)))
  | i + 4 => exact bdS_cons i0T i0T (bdS_cons i1T i1T (bdS_cons i1T i1T (bdS_cons i0T i0T bdS_nil)))
theorem bd_hdZ {T : List Nd} (h : BdT T) : BdT (hdZ T) := bdS_app (bdS_app (bdS_cons i0T i0T (bdS_cons i1T i1T (bdS_cons i0T i1T bdS_nil))) h) (bdS_cons i0T i0T bdS_nil)
def hlS : Nat → Nat
  | 0 => 2
  | 1 => 2
  | 2 => 1
  | _ => 4
theorem hdS_len (d : Int) : ∀ i : Nat, (hdS d i).length = hlS i
  | 0 => rfl
  | 1 => rfl
  | 2 => rfl
  | 3 => rfl
  | _ + 4 => rfl
theorem hlS_le (i : Nat) : hlS i ≤ 4 := by unfold hlS; split <;> omega
/-- The heads that are still to be taken. -/
def HdsS (d : Int) (wx : World) (Z i : Nat) : Prop := (∀ j, i ≤ j → j < 5 → OwnN wx Z (.slice (some ⟨Z + j, 0, none⟩) (hlS j) (hlS j)) (hdS d j)) ∧ ∀ j, j < 5 → wx.cell? ⟨Z + 1 + 1 + 1 + 1 + 1, j, none⟩ = some (.slice (some ⟨Z + j, 0, none⟩) (hlS j) (hlS j))
theorem HdsS.keep {d : Int} {wx wy : World} {Z i : Nat} (h : HdsS d wx Z i) (hb : Below wx.heap.size wx wy) : HdsS d wy Z i := ⟨fun j h1 h2 => (h.1 j h1 h2).grown hb, fun j h1 => keepF hb (h.2 j h1)⟩
theorem HdsS.app {d : Int} {wx wy : World} {Z i : Nat} (h : HdsS d wx Z i) (hi : i < 5) (hg : wx.grownBy wy (some (Z + i))) : HdsS d wy Z (i + 1) := by
  refine ⟨fun j h1 h2 => (h.1 j (by omega) h2).kept hg (.inr (fun e => ?_)), fun j h1 => (World.cell?_of_block (hg.block _ (ltF (h.2 j h1)) (fun e => ?_))).trans (h.2 j h1)⟩
  · have : some (Z + j) = some (Z + i) := e
    injection this with this
    omega
  · have e' : Z + 1 + 1 + 1 + 1 + 1 = Z + i := by injection e
    omega
theorem hdsS_new (d : Int) (W : World) (Z : Nat) (hZ : W.heap.size = Z) : HdsS d ((((((W.alloc (.cells #[.int .i64 13, .int .i64 0, .int .i64 0, .int .i64 0, .int .i64 0, .int .i64 1, .int .i64 0, .int .i64 0, .int .i64 1, .int .i64 1] 60)).alloc (.cells #[.int .i64 12, .int .i64 0, .int .i64 0, .int .i64 0, .int .i64 0, .int .i64 9, .int .i64 0, .int .i64 0, .int .i64 0, .int .i64 0] 60)).alloc (.cells #[.int .i64 14, .int .i64 d, .int .i64 0, .int .i64 0, .int .i64 0] 60)).alloc (.cells #[.int .i64 15, .int .i64 0, .int .i64 0, .int .i64 0, .int .i64 0, .int .i64 1, .int .i64 0, .int .i64 0, .int .i64 1, .int .i64 1, .int .i64 1, .int .i64 0, .int .i64 0, .int .i64 0, .int .i64 1, .int .i64 9, .int .i64 0, .int .i64 0, .int .i64 0, .int .i64 0] 60)).alloc (.cells #[.int .i64 15, .int .i64 0, .int .i64 0, .int .i64 0, .int .i64 0, .int .i64 1, .int .i64 0, .int .i64 0, .int .i64 1, .int .i64 1, .int .i64 1, .int .i64 0, .int .i64 0, .int .i64 1, .int .i64 1, .int .i64 9, .int .i64 0, .int .i64 0, .int .i64 0, .int .i64 0] 60)).alloc (.cells #[.slice (some ⟨Z, 0, none⟩) 2 2, .slice (some ⟨Z + 1, 0, none⟩) 2 2, .slice (some ⟨Z + 1 + 1, 0, none⟩) 1 1, .slice (some ⟨Z + 1 + 1 + 1, 0, none⟩) 4 4, .slice (some ⟨Z + 1 + 1 + 1 + 1, 0, none⟩) 4 4] 22)) Z 0 := by
  subst hZ
  have lit : ∀ (w : World) (n : Nat) (row : List Nd) (hb : W.heap.size ≤ w.heap.size) (cs : Array Value), cs.toList = ndR row → row.length = n → n ≤ 4 → cs.size = n * 5 → OwnN (w.alloc (.cells cs 60)) W.heap.size (.slice (some ⟨w.heap.size, 0, none⟩) n n) row := fun w n row hb cs h1 h2 h3 h4 => by
    have := World.ownsRow_lit (base := W.heap.size) (e := 60) (size := 5) w cs n hb (by unfold maxLen; omega) h4
    unfold OwnN
    rw [← h1, h2]
    exact this
  have o0 := lit W 2 (hdS d 0) (Nat.le_refl _) #[.int .i64 13, .int .i64 0, .int .i64 0, .int .i64 0, .int .i64 0, .int .i64 1, .int .i64 0, .int .i64 0, .int .i64 1, .int .i64 1] rfl rfl (by omega) rfl
  have o1 := lit (W.alloc (.cells #[.int .i64 13, .int .i64 0, .int .i64 0, .int .i64 0, .int .i64 0, .int .i64 1, .int .i64 0, .int .i64 0, .int .i64 1, .int .i64 1] 60)) 2 (hdS d 1) (by simp) #[.int .i64 12, .int .i64 0, .int .i64 0, .int .i64 0, .int .i64 0, .int .i64 9, .int .i64 0, .int .i64 0, .int .i64 0, .int .i64 0] rfl rfl (by omega) rfl
  have o2 := lit ((W.alloc (.cells #[.int .i64 13, .int .i64 0, .int .i64 0, .int .i64 0, .int .i64 0, .int .i64 1, .int .i64 0, .int .i64 0, .int .i64 1, .int .i64 1] 60)).alloc (.cells #[.int .i64 12, .int .i64 0, .int .i64 0, .int .i64 0, .int .i64 0, .int .i64 9, .int .i64 0, .int .i64 0, .int .i64 0, .int .i64 0] 60)) 1 (hdS d 2) (by simp; omega) #[.int .i64 14, .int .i64 d, .int .i64 0, .int .i64 0, .int .i64 0] rfl rfl (by omega) rfl
  have o3 := lit (((W.alloc (.cells #[.int .i64 13, .int .i64 0, .int .i64 0, .int .i64 0, .int .i64 0, .int .i64 1, .int .i64 0, .int .i64 0, .int .i64 1, .int .i64 1] 60)).alloc (.cells #[.int .i64 12, .int .i64 0, .int .i64 0, .int .i64 0, .int .i64 0, .int .i64 9, .int .i64 0, .int .i64 0, .int .i64 0, .int .i64 0] 60)).alloc (.cells #[.int .i64 14, .int .i64 d, .int .i64 0, .int .i64 0, .int .i64 0] 60)) 4 (hdS d 3) (by simp; omega) #[.int .i64 15, .int .i64 0, .int .i64 0, .int .i64 0, .int .i64 0, .int .i64 1, .int .i64 0, .int .i64 0, .int .i64 1, .int .i64 1, .int .i64 1, .int .i64 0, .int .i64 0, .int .i64 0, .int .i64 1, .int .i64 9, .int .i64 0, .int .i64 0, .int .i64 0, .int .i64 0] rfl rfl (by omega) rfl
  have o4 := lit ((((W.alloc (.cells #[.int .i64 13, .int .i64 0, .int .i64 0, .int .i64 0, .int .i64 0, .int .i64 1, .int .i64 0, .int .i64 0, .int .i64 1, .int .i64 1] 60)).alloc (.cells #[.int .i64 12, .int .i64 0, .int .i64 0, .int .i64 0, .int .i64 0, .int .i64 9, .int .i64 0, .int .i64 0, .int .i64 0, .int .i64 0] 60)).alloc (.cells #[.int .i64 14, .int .i64 d, .int .i64 0, .int .i64 0, .int .i64 0] 60)).alloc (.cells #[.int .i64 15, .int .i64 0, .int .i64 0, .int .i64 0, .int .i64 0, .int .i64 1, .int .i64 0, .int .i64 0, .int .i64 1, .int .i64 1, .int .i64 1, .int .i64 0, .int .i64 0, .int .i64 0, .int .i64 1, .int .i64 9, .int .i64 0, .int .i64 0, .int .i64 0, .int .i64 0] 60)) 4 (hdS d 4) (by simp; omega) #[.int .i64 15, .int .i64 0, .int .i64 0, .int .i64 0, .int .i64 0, .int .i64 1, .int .i64 0, .int .i64 0, .int .i64 1, .int .i64 1, .int .i64 1, .int .i64 0, .int .i64 0, .int .i64 1, .int .i64 1, .int .i64 9, .int .i64 0, .int .i64 0, .int .i64 0, .int .i64 0] rfl rfl (by omega) rfl
  simp only [World.size_alloc] at o1 o2 o3 o4
  refine ⟨fun j h1 h2 => ?_, fun j h1 => ?_⟩
  · rcases (show j = 0 ∨ j = 1 ∨ j = 2 ∨ j = 3 ∨ j = 4 by omega) with rfl | rfl | rfl | rfl | rfl
    · exact ((((o0.grown (newF _ _)).grown (newF _ _)).grown (newF _ _)).grown (newF _ _)).grown (newF _ _)
    · exact (((o1.grown (newF _ _)).grown (newF _ _)).grown (newF _ _)).grown (newF _ _)
    · exact ((o2.grown (newF _ _)).grown (newF _ _)).grown (newF _ _)
    · exact (o3.grown (newF _ _)).grown (newF _ _)
    · exact o4.grown (newF _ _)
  · rw [World.cell?_alloc_at _ _ _ _ (by simp)]
    rcases (show j = 0 ∨ j = 1 ∨ j = 2 ∨ j = 3 ∨ j = 4 by omega) with rfl | rfl | rfl | rfl | rfl <;> rfl
theorem flo_sameE {E : Int} {r r' : List Flw × List Wat} (h : E = 0 → r' = r) {m m' : List Flw} (h1 : SrF m) (h1' : SrF m') (h2 : E ≠ 0 → m = []) (h2' : E ≠ 0 → m' = []) (h3 : E = 0 → m.Perm r.1) (h3' : E = 0 → m'.Perm r'.1) : m' = m := by
  by_cases c : E = 0
  · have := h3' c
    rw [h c] at this
    exact srF_uniq h1' h1 (this.trans (h3 c).symm)
  · rw [h2 c, h2' c]
theorem wai_sameE {E : Int} {r r' : List Flw × List Wat} (h : E = 0 → r' = r) {m m' : List Wat} (h1 : SrW m) (h1' : SrW m') (h2 : E ≠ 0 → m = []) (h2' : E ≠ 0 → m' = []) (h3 : E = 0 → ∀ x, x ∈ m ↔ x ∈ r.2) (h3' : E = 0 → ∀ x, x ∈ m' ↔ x ∈ r'.2) : m' = m := by
  by_cases c : E = 0
  · have := h3' c
    rw [h c] at this
    exact srW_uniq h1' h1 (fun x => (this x).trans (h3 c x).symm)
  · rw [h2 c, h2' c]
theorem own3 (w : World) (base : Nat) (hb : base ≤ w.heap.size) : OwnN (w.alloc (.cells #[.int .i64 15, .int .i64 0, .int .i64 0, .int .i64 0, .int .i64 0, .int .i64 1, .int .i64 0, .int .i64 0, .int .i64 1, .int .i64 1, .int .i64 1, .int .i64 0, .int .i64 0, .int .i64 0, .int .i64 1] 60)) base (.slice (some ⟨w.heap.size, 0, none⟩) 3 3) [cndN, ⟨1, 0, 0, 1, 1⟩, ⟨1, 0, 0, 0, 1⟩] :=
  World.ownsRow_lit w #[.int .i64 15, .int .i64 0, .int .i64 0, .int .i64 0, .int .i64 0, .int .i64 1, .int .i64 0, .int .i64 0, .int .i64 1, .int .i64 1, .int .i64 1, .int .i64 0, .int .i64 0, .int .i64 0, .int .i64 1] 3 hb (by unfold maxLen; omega) rfl
set_option maxRecDepth 100000 in
set_option maxHeartbeats 4000000 in
theorem same_walk (w : World) (t : List Nd) (hbd : BdT t) (v0 : Value) (h0 : SlT w v0 t) (fr tu : Int) (L : List Tol) (s1 : Value) (h1 : SlTol w s1 L) (hok1 : ∀ j, j < L.length → (L.getD j default).Ok) (C : KndW w) :
    Calls Tryz.prog 5 #[.agg #[v0, .int .i64 fr, .int .i64 tu, s1]] w fun e w' => e = .returned (.bool true) ∧ Below w.heap.size w w' := by
  obtain ⟨a0, c0, rfl⟩ := h0.slice
  obtain ⟨a1, c1, rfl⟩ : ∃ a c, s1 = .slice a L.length c := by
    rcases h1 with ⟨rfl, a, c, rfl⟩ | ⟨_, b, o, c, rfl, _⟩
    · exact ⟨_, _, rfl⟩
    · exact ⟨_, _, rfl⟩
  have HAw := Lib.hid (fun (w' : World) (hb : Below w.heap.size w w') => awake9_any w' (C.keep hb))
  have hb0 := newF w (.cells #[.slice a0 t.length c0, .int .i64 fr, .int .i64 tu, .slice a1 L.length c1] 25)
  have rr : ∀ k v, (#[.slice a0 t.length c0, .int .i64 fr, .int .i64 tu, .slice a1 L.length c1] : Array Value)[k]? = some v → (w.alloc (.cells #[.slice a0 t.length c0, .int .i64 fr, .int .i64 tu, .slice a1 L.length c1] 25)).cell? ⟨w.heap.size, k, none⟩ = some v := fun k v hv => by rw [World.cell?_alloc_at _ _ _ _ rfl]; exact hv
  have r0 := rr 0 (.slice a0 t.length c0) rfl
  have r1 := rr 1 (.int .i64 fr) rfl
  have r2 := rr 2 (.int .i64 tu) rfl
  have r3 := rr 3 (.slice a1 L.length c1) rfl
  have HR := Lib.hid (And.intro r0 (And.intro r1 (And.intro r2 r3)))
  have HB0 := Lib.hid hb0
  have HS := Lib.hid (And.intro (h0.keep hb0) (And.intro (h1.keep hb0) (C.keep hb0)))
  have HMd := Lib.hid (fun (w' : World) (hs : SlTol w' (.slice a1 L.length c1) L) => made_any w' _ L hs hok1)
  have HFw := Lib.hid (fun (w' : World) => few_any w' a0 a1 t.length L.length c0 c1 fr tu)
  have hrel := rel_made L L.length (Nat.le_refl _) hok1
  rw [List.take_length] at hrel
  have HRel := Lib.hid (And.intro hrel.1 (And.intro hrel.2.1 (And.intro (plF_ok L (ok_mem hok1)) (plC_ok L))))
  have HBd := Lib.hid hbd
  obtain ⟨few, hfew⟩ : ∃ b, b = decide (t.length ≤ 100 ∧ L.length ≤ 60) := ⟨_, rfl⟩
  rw [← hfew] at HFw
  have HF := Lib.hid hfew
  clear hb0 rr r0 r1 r2 h0 h1 hok1 C hbd hrel hfew
  go_enter Tryz.func5, Tryz.ntmps5
  go_wp2_with fail
  generalize w.alloc (.cells #[.slice a0 t.length c0, .int .i64 fr, .int .i64 tu, .slice a1 L.length c1] 25) = w0 at *
  refine (HMd.out _ HS.out.2.1).mono ?_
  rintro e w1 ⟨B, bf, bc, rfl, hm, hB, hbf, hbc, hb1⟩
  have HM := Lib.hid hm
  have HB1 := Lib.hid hb1
  have HBw := Lib.hid (onF HB0.out hb1)
  have r0 := keepF hb1 HR.out.1
  have r1 := keepF hb1 HR.out.2.1
  have r2 := keepF hb1 HR.out.2.2.1
  have r3 := keepF hb1 HR.out.2.2.2
  clear hm hB hbf hbc hb1 HMd
  go_wp2_with fail
  refine (HFw.out _).mono ?_
  rintro e w2 ⟨rfl, hb2⟩
  have HB2 := Lib.hid (onF HBw.out hb2)
  have HM2 := Lib.hid (HM.out.keep hb2)
  have HS2 := Lib.hid (And.intro ((HS.out.1.keep HB1.out).keep hb2) ((HS.out.2.2.keep HB1.out).keep hb2))
  have r0 := keepF hb2 r0
  have r1 := keepF hb2 r1
  have r2 := keepF hb2 r2
  have HR2 := Lib.hid (And.intro r0 (And.intro r1 r2))
  clear hb2 HFw HM HB1 HBw HB0 HR HS r3
  cases few with
  | false =>
    clear r0 r1 r2
    go_wp2_with fail
    refine (HAw.out _ HB2.out).mono ?_
    rintro e w3 ⟨rfl, hb3⟩
    have HB3 := Lib.hid (onF HB2.out hb3)
    clear hb3
    go_wp2_with fail
    go_ret
    exact ⟨rfl, HB3.out⟩
  | true =>
    by_cases l1 : (40 : Int) < (t.length : Int)
    · go_wp2_with fail
      refine (HAw.out _ HB2.out).mono ?_
      rintro e w3 ⟨rfl, hb3⟩
      have HB3 := Lib.hid (onF HB2.out hb3)
      clear hb3
      go_wp2_with fail
      go_ret
      exact ⟨rfl, HB3.out⟩
    by_cases l2 : fr < 0
    · go_wp2_with fail
      refine (HAw.out _ HB2.out).mono ?_
      rintro e w3 ⟨rfl, hb3⟩
      have HB3 := Lib.hid (onF HB2.out hb3)
      clear hb3
      go_wp2_with fail
      go_ret
      exact ⟨rfl, HB3.out⟩
    by_cases l3 : (73048 : Int) < fr
    · go_wp2_with fail
      refine (HAw.out _ HB2.out).mono ?_
      rintro e w3 ⟨rfl, hb3⟩
      have HB3 := Lib.hid (onF HB2.out hb3)
      clear hb3
      go_wp2_with fail
      go_ret
      exact ⟨rfl, HB3.out⟩
    have hl : t.length ≤ 100 ∧ L.length ≤ 60 := of_decide_eq_true HF.out.symm
    have HCk := Lib.hid (rchkT_any t (by omega) HBd.out _ w2 HS2.out.1)
    have HDp0 := Lib.hid (fun (hT : TmA t 0) (w' : World) (hb : Below w2.heap.size w2 w') => rdep_sl t (by omega) hT _ w' (HS2.out.1.keep hb))
    have HLt := Lib.hid (show t.length ≤ 40 by omega)
    have HFr := Lib.hid (And.intro (show 0 ≤ fr by omega) (show fr ≤ 73048 by omega))
    by_cases hck : chkK t = 0
    · obtain ⟨t1, t2⟩ := chk_ct hck
      have HDp := Lib.hid (HDp0.out (ofK_zero t1).2.1.tm.1)
      have HCk0 := Lib.hid hck
      rw [hck] at HCk
      by_cases hdp : dpA t 0 ≤ 11
      · have i2 : ¬ (11 : Int) < ((dpA t 0 : Nat) : Int) := by omega
        have HSm := Lib.hid (fun i hi => heads_same (lf := plF L) (lc := plC L) HCk0.out HLt.out hdp HFr.out.1 HFr.out.2 HRel.out.2.2.1 HRel.out.2.2.2 tu i hi)
        have HNo := Lib.hid (head_none (lf := plF L) (lc := plC L) HCk0.out HLt.out hdp HFr.out.1 HFr.out.2 HRel.out.2.2.1 HRel.out.2.2.2 tu)
        clear HDp0 t1 t2 hck hl hdp
        generalize dpA t 0 = dd at *
        go_wp2_with fail
        refine HCk.out.mono ?_
        rintro e w3 ⟨rfl, hb3⟩
        have HB3 := Lib.hid hb3
        have r0 := keepF hb3 HR2.out.1
        have r1 := keepF hb3 HR2.out.2.1
        have r2 := keepF hb3 HR2.out.2.2
        clear hb3 HCk
        go_wp2_with fail
        refine (HDp.out _ HB3.out).mono ?_
        rintro e w4 ⟨rfl, hb4⟩
        have HB4 := Lib.hid (onF HB3.out hb4)
        have r0 := keepF hb4 r0
        have r1 := keepF hb4 r1
        have r2 := keepF hb4 r2
        have HR4 := Lib.hid (And.intro r0 (And.intro r1 r2))
        have HF1 := Lib.hid (flows_any w4 t (by have := HLt.out; omega) HBd.out _ (HS2.out.1.keep HB4.out) (HS2.out.2.keep HB4.out) fr tu (HM2.out.keep HB4.out) HRel.out.1 HRel.out.2.1 HRel.out.2.2.1 HRel.out.2.2.2)
        have HW1 := Lib.hid (fun (w' : World) (hb : Below w2.heap.size w2 w') => waits_any w' t (by have := HLt.out; omega) HBd.out _ (HS2.out.1.keep hb) (HS2.out.2.keep hb) fr tu (HM2.out.keep hb) HRel.out.1 HRel.out.2.1 HRel.out.2.2.1 HRel.out.2.2.2)
        have HFa := Lib.hid (fun (w' : World) (hb : Below w2.heap.size w2 w') (T : List Nd) (hT : T.length ≤ 1000) (hB : BdT T) (v : Value) (hs : SlT w' v T) => And.intro (flows_any w' T hT hB v hs (HS2.out.2.keep hb) fr tu (HM2.out.keep hb) HRel.out.1 HRel.out.2.1 HRel.out.2.2.1 HRel.out.2.2.2) (waits_any w' T hT hB v hs (HS2.out.2.keep hb) fr tu (HM2.out.keep hb) HRel.out.1 HRel.out.2.1 HRel.out.2.2.1 HRel.out.2.2.2))
        unfold FloQ at HF1
        unfold WaiQ at HW1
        unfold FloQ WaiQ at HFa
        clear hb4 HDp HB3
        obtain ⟨E1, hE1⟩ : ∃ E, E = erD t (plF L) (plC L) fr tu := ⟨_, rfl⟩
        have HE1 := Lib.hid hE1
        rw [← hE1] at HF1 HW1
        clear hE1
        go_wp2_with fail
        refine HF1.out.mono ?_
        rintro e w5 ⟨hb5, va, ma, rfl, ho, hml, hsr, hne, hp⟩
        have HPa := Lib.hid (And.intro hml (And.intro hsr (And.intro hne hp)))
        have HOa := Lib.hid ho
        have HB5 := Lib.hid (onF HB4.out hb5)
        have HW5 := Lib.hid (HW1.out w5 HB5.out)
        have r0 := keepF hb5 r0
        have r1 := keepF hb5 r1
        have r2 := keepF hb5 r2
        obtain ⟨aa, an, ac, han, rfl⟩ : ∃ a n c, n = ma.length ∧ va = Value.slice a n c := by
          obtain ⟨a, c, h⟩ := ho.slice
          exact ⟨a, _, c, rfl, h⟩
        clear ho hml hsr hne hp hb5 HF1 HW1 han HB4
        go_wp2_with fail
        refine HW5.out.mono ?_
        rintro e w6 ⟨hb6, vb, mb, rfl, ho, hml, hsr, hokw, hne, hp⟩
        have HPb := Lib.hid (And.intro hml (And.intro hsr (And.intro hne hp)))
        have HB6 := Lib.hid (onF HB5.out hb6)
        have HRa := Lib.hid (OwnX.row (E := flL) (k := 3) (fun _ => rfl) (HOa.out.grown hb6))
        have HRb := Lib.hid (OwnX.row (E := waL) (k := 3) (fun _ => rfl) ho)
        have r0 := keepF hb6 r0
        have r1 := keepF hb6 r1
        have r2 := keepF hb6 r2
        have HR6 := Lib.hid (And.intro r0 (And.intro r1 r2))
        obtain ⟨ba, bn, bc', hbn, rfl⟩ : ∃ a n c, n = mb.length ∧ vb = Value.slice a n c := by
          obtain ⟨a, c, h⟩ := ho.slice
          exact ⟨a, _, c, rfl, h⟩
        clear ho hml hsr hokw hne hp hb6 HW5 hbn HB5 HOa
        have HB26 := Lib.hid (show Below w2.heap.size w2 w6 from HB6.out)
        have r1a : ((((w6.alloc (.cells #[.int .i64 1, .int .i64 0, .int .i64 0, .int .i64 0, .int .i64 1] 60)).alloc (.cells #[.int .i64 1, .int .i64 0, .int .i64 0, .int .i64 1, .int .i64 1] 60)).alloc (.cells #[.int .i64 13, .int .i64 0, .int .i64 0, .int .i64 0, .int .i64 0, .int .i64 1, .int .i64 0, .int .i64 0, .int .i64 1, .int .i64 1] 60)).alloc (.cells #[.int .i64 12, .int .i64 0, .int .i64 0, .int .i64 0, .int .i64 0, .int .i64 9, .int .i64 0, .int .i64 0, .int .i64 0, .int .i64 0] 60)).cell? ⟨w.heap.size, 1, none⟩ = some (.int .i64 fr) := keepF (newF _ _) (keepF (newF _ _) (keepF (newF _ _) (keepF (newF _ _) r1)))
        clear r0 r1 r2
        go_wp2_with fail
        have HNou : Hid (∀ k v, (#[.int .i64 1, .int .i64 0, .int .i64 0, .int .i64 0, .int .i64 1] : Array Value)[k]? = some v → ((w6.alloc (.cells #[.int .i64 1, .int .i64 0, .int .i64 0, .int .i64 0, .int .i64 1] 60)).alloc (.cells #[.int .i64 1, .int .i64 0, .int .i64 0, .int .i64 1, .int .i64 1] 60)).cell? ⟨w6.heap.size, k, none⟩ = some v) := Lib.hid (fun k v hv => keepF (newF _ _) (by rw [World.cell?_alloc_at _ _ _ _ rfl]; exact hv))
        have HOne : Hid (∀ k v, (#[.int .i64 1, .int .i64 0, .int .i64 0, .int .i64 1, .int .i64 1] : Array Value)[k]? = some v → ((w6.alloc (.cells #[.int .i64 1, .int .i64 0, .int .i64 0, .int .i64 0, .int .i64 1] 60)).alloc (.cells #[.int .i64 1, .int .i64 0, .int .i64 0, .int .i64 1, .int .i64 1] 60)).cell? ⟨w6.heap.size + 1, k, none⟩ = some v) := Lib.hid (fun k v hv => by rw [World.cell?_alloc_at _ _ _ _ (by simp)]; exact hv)
        have hbW := onF (newF w6 (.cells #[.int .i64 1, .int .i64 0, .int .i64 0, .int .i64 0, .int .i64 1] 60)) (newF _ (.cells #[.int .i64 1, .int .i64 0, .int .i64 0, .int .i64 1, .int .i64 1] 60))
        have HRW := Lib.hid (And.intro (keepF hbW HR6.out.1) (And.intro (keepF hbW HR6.out.2.1) (keepF hbW HR6.out.2.2)))
        have HRaW := Lib.hid (HRa.out.keep hbW)
        have HRbW := Lib.hid (HRb.out.keep hbW)
        have HBW := Lib.hid (onF HB26.out hbW)
        have HHd := Lib.hid (hdsS_new fr ((w6.alloc (.cells #[.int .i64 1, .int .i64 0, .int .i64 0, .int .i64 0, .int .i64 1] 60)).alloc (.cells #[.int .i64 1, .int .i64 0, .int .i64 0, .int .i64 1, .int .i64 1] 60)) (w6.heap.size + 1 + 1) (by simp))
        have HZe : Hid (((w6.alloc (.cells #[.int .i64 1, .int .i64 0, .int .i64 0, .int .i64 0, .int .i64 1] 60)).alloc (.cells #[.int .i64 1, .int .i64 0, .int .i64 0, .int .i64 1, .int .i64 1] 60)).heap.size = w6.heap.size + 1 + 1) := Lib.hid (by simp)
        clear hbW r1a HB26 HRa HRb HR6 HR4 HR2
        generalize (w6.alloc (.cells #[.int .i64 1, .int .i64 0, .int .i64 0, .int .i64 0, .int .i64 1] 60)).alloc (.cells #[.int .i64 1, .int .i64 0, .int .i64 0, .int .i64 1, .int .i64 1] 60) = W at *
        generalize w6.heap.size = X at *
        go_loopw [11] (fun vi wx => ∃ i : Nat, i ≤ 5 ∧ vi = .int .i64 (i : Nat) ∧ Below W.heap.size W wx ∧ HdsS fr wx (X + 1 + 1) i) (fun vi _ => 5 - (RowKit.intOf vi).toNat)
        case atStart => exact ⟨0, by omega, rfl, onF (onF (onF (onF (onF (newF _ _) (newF _ _)) (newF _ _)) (newF _ _)) (newF _ _)) (newF _ _), HHd.out⟩
        case round =>
          obtain ⟨i, hi, rfl, hb, hh⟩ := hrel
          have HB := Lib.hid hb
          have HH := Lib.hid hh
          have r0 := keepF hb HRW.out.1
          clear HHd
          by_cases hlt : i < 5
          · have p0 : (0 : Int) ≤ (i : Int) := by omega
            have p1 : (i : Int) < 5 := by omega
            have k0 := hh.2 i hlt
            have HOi := Lib.hid (hh.1 i (Nat.le_refl _) hlt)
            have HT := Lib.hid (HS2.out.1.keep (onF HBW.out hb))
            have HLi := Lib.hid hlt
            have HZw : Hid (X + 1 + 1 ≤ wr.heap.size) := Lib.hid (by have := hb.size; have := HZe.out; omega)
            have HSi := Lib.hid (HSm.out i hlt)
            clear hb hh hlt
            go_wp2_with (at_builtin; refine wpList_append_nodes rfl (.tmp 122) (.tmp 124) rfl (X + 1 + 1) _ (hdS fr i) rfl HOi.out _ t rfl HT.out (by rw [hdS_len]; have := hlS_le i; have := HLt.out; omega) HZw.out ?_; intro v5 w7 ho5 hg5 hat5; have HO5 := Lib.hid ho5; have HB7 : Hid (Below W.heap.size W w7) := Lib.hid (HB.out.grown hg5 HB.out.size (fun j hj => by have e : X + 1 + 1 + i = j := (by injection hj); have := HZe.out; omega)); have HH7 := Lib.hid (HH.out.app HLi.out hg5); have r1 := keepF HB7.out HRW.out.2.1; have r2 := keepF HB7.out HRW.out.2.2; clear ho5 hg5 hat5)
            have HFx := Lib.hid (HFa.out w7 (onF HBW.out HB7.out) (hdS fr i ++ t) (by rw [List.length_append, hdS_len]; have := hlS_le i; have := HLt.out; omega) (bdS_app (bd_hdS fr i) HBd.out) v5 HO5.out.sl)
            have HFy := Lib.hid (fun (w' : World) (hb : Below w7.heap.size w7 w') => (HFa.out w' (onF (onF HBW.out HB7.out) hb) (hdS fr i ++ t) (by rw [List.length_append, hdS_len]; have := hlS_le i; have := HLt.out; omega) (bdS_app (bd_hdS fr i) HBd.out) v5 (HO5.out.grown hb).sl).2)
            rw [HSi.out.1, ← HE1.out] at HFx HFy
            clear HOi HT k0 HO5 r0
            go_wp2_with fail
            refine HFx.out.1.mono ?_
            rintro e w8 ⟨hb8, vc, mc, rfl, ho, hml, hsr, hne, hp⟩
            obtain rfl : mc = ma := flo_sameE (fun h => HSi.out.2 (by rw [← HE1.out]; exact h)) HPa.out.2.1 hsr HPa.out.2.2.1 hne HPa.out.2.2.2 hp
            have HOc := Lib.hid ho
            have HB8 := Lib.hid hb8
            have HWy := Lib.hid (HFy.out w8 hb8)
            have r1 := keepF hb8 r1
            have r2 := keepF hb8 r2
            obtain ⟨ca, cn, cc, hcn, rfl⟩ : ∃ a n c, n = mc.length ∧ vc = Value.slice a n c := by
              obtain ⟨a, c, h⟩ := ho.slice
              exact ⟨a, _, c, rfl, h⟩
            clear ho hml hsr hne hp hb8 HFx HFy hcn
            go_wp2_with fail
            refine HWy.out.mono ?_
            rintro e w9 ⟨hb9, vd, md, rfl, ho, hml, hsr, hokw, hne, hp⟩
            obtain rfl : md = mb := wai_sameE (fun h => HSi.out.2 (by rw [← HE1.out]; exact h)) HPb.out.2.1 hsr HPb.out.2.2.1 hne HPb.out.2.2.2 hp
            have HB9 := Lib.hid (onF HB7.out (onF HB8.out hb9))
            have HH9 := Lib.hid (HH7.out.keep (onF HB8.out hb9))
            have HEq1 := Lib.hid (flows_eq w9 _ _ _ (HRaW.out.keep HB9.out) ((OwnX.row (E := flL) (k := 3) (fun _ => rfl) HOc.out).keep hb9))
            have HEq2 := Lib.hid (fun (w' : World) (hb : Below w9.heap.size w9 w') => waits_eq w' _ _ _ ((HRbW.out.keep HB9.out).keep hb) ((OwnX.row (E := waL) (k := 3) (fun _ => rfl) ho).keep hb))
            obtain ⟨da, dn', dc, hdn, rfl⟩ : ∃ a n c, n = md.length ∧ vd = Value.slice a n c := by
              obtain ⟨a, c, h⟩ := ho.slice
              exact ⟨a, _, c, rfl, h⟩
            clear ho hml hsr hokw hne hp hb9 HWy hdn HOc HB8 HB7 HH7 r1 r2
            go_wp2_with fail
            refine HEq1.out.mono ?_
            rintro e w10 ⟨rfl, hb10⟩
            have HEq3 := Lib.hid (HEq2.out w10 hb10)
            have HB10 := Lib.hid hb10
            clear hb10 HEq1 HEq2
            go_wp2_with fail
            refine HEq3.out.mono ?_
            rintro e w11 ⟨rfl, hb11⟩
            have HB11 := Lib.hid (onF HB10.out hb11)
            clear hb11 HEq3
            go_wp2_with fail
            go_roundw
            case rel => exact ⟨i + 1, HLi.out, by go_num, onF HB9.out HB11.out, HH9.out.keep HB11.out⟩
            case measure => have := HLi.out; simp [RowKit.intOf]; omega
          · have hie : i = 5 := by omega
            subst hie
            clear hh hlt hi HH HSm
            have o0 := keepF hb (HOne.out 0 _ rfl)
            have o1 := keepF hb (HOne.out 1 _ rfl)
            have o2 := keepF hb (HOne.out 2 _ rfl)
            have o3 := keepF hb (HOne.out 3 _ rfl)
            have o4 := keepF hb (HOne.out 4 _ rfl)
            have n0 := keepF hb (HNou.out 0 _ rfl)
            have n1 := keepF hb (HNou.out 1 _ rfl)
            have n2 := keepF hb (HNou.out 2 _ rfl)
            have n3 := keepF hb (HNou.out 3 _ rfl)
            have n4 := keepF hb (HNou.out 4 _ rfl)
            have hnw := newF wr (.cells #[.int .i64 15, .int .i64 0, .int .i64 0, .int .i64 0, .int .i64 0, .int .i64 1, .int .i64 0, .int .i64 0, .int .i64 1, .int .i64 1, .int .i64 1, .int .i64 0, .int .i64 0, .int .i64 0, .int .i64 1] 60)
            have q0 := keepF hnw r0
            have HO0 := Lib.hid (own3 wr wr.heap.size (Nat.le_refl _))
            have HBq := Lib.hid (onF hb hnw)
            have HTq := Lib.hid (HS2.out.1.keep (onF (onF HBW.out hb) hnw))
            have HZr := Lib.hid hb.size
            clear hb hnw HB r0
            go_upto_region 20 with (at_builtin; refine wpList_append_nodes rfl (.tmp 170) (.tmp 172) rfl wr.heap.size _ [cndN, ⟨1, 0, 0, 1, 1⟩, ⟨1, 0, 0, 0, 1⟩] rfl HO0.out _ t rfl HTq.out (by have := HLt.out; simp; omega) (by simp) ?_; intro v5 w7 ho5 hg5 hat5; have HO5 := Lib.hid ho5; have HB7 : Hid (Below W.heap.size W w7) := Lib.hid (HBq.out.grown hg5 HBq.out.size (fun j hj => by have := (World.ownsRow.lt HO0.out j hj).1; have := HZr.out; omega)); have HZ7 : Hid (wr.heap.size ≤ w7.heap.size) := Lib.hid (Nat.le_trans (show wr.heap.size ≤ (wr.alloc _).heap.size by simp) hg5.size); clear ho5 hg5 hat5)
            clear o0 o1 o2 o3 o4 n0 n1 n2 n3 n4 q0 HO0 HBq HTq
            go_wp2_with (at_builtin; refine wpList_append_nodes rfl (.tmp 174) (.tmp 176) rfl wr.heap.size _ ([cndN, ⟨1, 0, 0, 1, 1⟩, ⟨1, 0, 0, 0, 1⟩] ++ t) rfl ?q1 _ [⟨9, 0, 0, 0, 0⟩] rfl ?q2 ?q3 ?q4 ?q5; (case q1 => exact HO5.out.grown (newF _ _)); (case q2 => exact (OwnN.one w7 w7.heap.size ⟨9, 0, 0, 0, 0⟩ (Nat.le_refl _)).sl); (case q3 => (have := HLt.out; simp; omega)); (case q4 => exact Nat.le_trans HZ7.out (by simp)); intro v6 w8 ho6 hg6 hat6; have HO6 : Hid (OwnN w8 wr.heap.size v6 (hdZ t)) := Lib.hid ho6; have HB8 : Hid (Below W.heap.size W w8) := Lib.hid ((onF HB7.out (newF _ _)).grown hg6 (onF HB7.out (newF _ _)).size (fun j hj => by have := (World.ownsRow.lt HO5.out j hj).1; have := HZr.out; omega)); have r1 := keepF HB8.out HRW.out.2.1; have r2 := keepF HB8.out HRW.out.2.2; clear ho6 hg6 hat6)
            have HFx := Lib.hid (HFa.out w8 (onF HBW.out HB8.out) (hdZ t) (by unfold hdZ; have := HLt.out; simp; omega) (bd_hdZ HBd.out) v6 HO6.out.sl)
            have HFy := Lib.hid (fun (w' : World) (hb : Below w8.heap.size w8 w') => (HFa.out w' (onF (onF HBW.out HB8.out) hb) (hdZ t) (by unfold hdZ; have := HLt.out; simp; omega) (bd_hdZ HBd.out) v6 (HO6.out.grown hb).sl).2)
            clear HO5 HO6 HB7 HFa
            by_cases hbad : tu < -1 ∨ 73048 < tu
            · obtain ⟨g1, g2⟩ := HNo.out.1 hbad
              rw [g1] at HFx HFy
              obtain rfl : E1 = 18 := HE1.out.trans g2
              have HBa := Lib.hid hbad
              clear hbad g1 g2
              go_wp2_with fail
              refine HFx.out.1.mono ?_
              rintro e w9 ⟨hb9, vc, mc, rfl, ho, hml, hsr, hne, hp⟩
              have HB9 := Lib.hid hb9
              have HWy := Lib.hid (HFy.out w9 hb9)
              have r1 := keepF hb9 r1
              have r2 := keepF hb9 r2
              obtain ⟨ca, cn, cc, hcn, rfl⟩ : ∃ a n c, n = mc.length ∧ vc = Value.slice a n c := by
                obtain ⟨a, c, h⟩ := ho.slice
                exact ⟨a, _, c, rfl, h⟩
              clear ho hml hsr hne hp hb9 HFx HFy hcn
              go_wp2_with fail
              refine HWy.out.mono ?_
              rintro e w12 ⟨hb12, vd, md, rfl, ho, hml, hsr, hokw, hne, hp⟩
              have HB12 := Lib.hid (onF HB2.out (onF HBW.out (onF HB8.out (onF HB9.out hb12))))
              have r2 := keepF hb12 r2
              obtain ⟨da, dn', dc, hdn, rfl⟩ : ∃ a n c, n = md.length ∧ vd = Value.slice a n c := by
                obtain ⟨a, c, h⟩ := ho.slice
                exact ⟨a, _, c, rfl, h⟩
              clear ho hml hsr hokw hne hp hb12 HWy hdn r1
              by_cases c1 : tu < -1
              · go_wp2_with fail
                refine (HAw.out _ HB12.out).mono ?_
                rintro e w13 ⟨rfl, hb13⟩
                have HB13 := Lib.hid (onF HB12.out hb13)
                clear hb13
                go_wp2_with fail
                go_ret
                exact ⟨rfl, HB13.out⟩
                
              · have c2 : 73048 < tu := HBa.out.resolve_left c1
                go_wp2_with fail
                refine (HAw.out _ HB12.out).mono ?_
                rintro e w13 ⟨rfl, hb13⟩
                have HB13 := Lib.hid (onF HB12.out hb13)
                clear hb13
                go_wp2_with fail
                go_ret
                exact ⟨rfl, HB13.out⟩
            · obtain ⟨g1, g2⟩ := HNo.out.2 hbad
              rw [g1, g2] at HFx HFy
              have c1 : ¬ tu < -1 := fun h => hbad (.inl h)
              have c2 : ¬ 73048 < tu := fun h => hbad (.inr h)
              clear hbad g1 g2
              go_wp2_with fail
              refine HFx.out.1.mono ?_
              rintro e w9 ⟨hb9, vc, mc, rfl, ho, hml, hsr, hne, hp⟩
              have HB9 := Lib.hid hb9
              have HWy := Lib.hid (HFy.out w9 hb9)
              have r1 := keepF hb9 r1
              have r2 := keepF hb9 r2
              obtain rfl : mc = [] := List.Perm.eq_nil (hp (by first | rfl | trivial))
              obtain ⟨ca, cn, cc, hcn, rfl⟩ : ∃ a n c, n = 0 ∧ vc = Value.slice a n c := by
                obtain ⟨a, c, h⟩ := ho.slice
                exact ⟨a, _, c, rfl, h⟩
              subst hcn
              clear ho hml hsr hne hp hb9 HFx HFy
              go_wp2_with fail
              refine HWy.out.mono ?_
              rintro e w12 ⟨hb12, vd, md, rfl, ho, hml, hsr, hokw, hne, hp⟩
              have HB12 := Lib.hid (onF HB2.out (onF HBW.out (onF HB8.out (onF HB9.out hb12))))
              have r2 := keepF hb12 r2
              obtain rfl : md = [] := List.eq_nil_iff_forall_not_mem.2 (fun x hx => by have := (hp (by first | rfl | trivial) x).1 hx; cases this)
              obtain ⟨da, dn', dc, hdn, rfl⟩ : ∃ a n c, n = 0 ∧ vd = Value.slice a n c := by
                obtain ⟨a, c, h⟩ := ho.slice
                exact ⟨a, _, c, rfl, h⟩
              subst hdn
              clear ho hml hsr hokw hne hp hb12 HWy r1
              go_wp2_with fail
              refine (HAw.out _ HB12.out).mono ?_
              rintro e w13 ⟨rfl, hb13⟩
              have HB13 := Lib.hid (onF HB12.out hb13)
              clear hb13
              go_wp2_with fail
              go_ret
              exact ⟨rfl, HB13.out⟩
      · have i2 : (11 : Int) < ((dpA t 0 : Nat) : Int) := by omega
        clear HDp0 t1 t2 hck hl hdp
        generalize dpA t 0 = dd at *
        go_wp2_with fail
        refine HCk.out.mono ?_
        rintro e w3 ⟨rfl, hb3⟩
        have HB3 := Lib.hid hb3
        have r0 := keepF hb3 HR2.out.1
        clear hb3 HCk
        go_wp2_with fail
        refine (HDp.out _ HB3.out).mono ?_
        rintro e w4 ⟨rfl, hb4⟩
        have HB4 := Lib.hid (onF HB2.out (onF HB3.out hb4))
        clear hb4 HDp HB3 r0 r1 r2
        go_wp2_with fail
        refine (HAw.out _ HB4.out).mono ?_
        rintro e w5 ⟨rfl, hb5⟩
        have HB5 := Lib.hid (onF HB4.out hb5)
        clear hb5
        go_wp2_with fail
        go_ret
        exact ⟨rfl, HB5.out⟩
    · have hck' : (((chkK t : Nat) : Int) != 0) = true := bne_iff_ne.2 (by omega)
      clear HDp0 hl
      generalize chkK t = ck at *
      go_wp2_with fail
      refine HCk.out.mono ?_
      rintro e w3 ⟨rfl, hb3⟩
      have HB3 := Lib.hid (onF HB2.out hb3)
      clear hb3 HCk
      go_wp2_with fail
      refine (HAw.out _ HB3.out).mono ?_
      rintro e w4 ⟨rfl, hb4⟩
      have HB4 := Lib.hid (onF HB3.out hb4)
      clear hb4
      go_wp2_with fail
      go_ret
      exact ⟨rfl, HB4.out⟩

end Go.Proofs.YtgeneoamngfomaaGreatDoor

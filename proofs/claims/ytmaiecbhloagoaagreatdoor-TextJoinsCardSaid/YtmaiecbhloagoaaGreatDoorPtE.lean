/-
  The text of both of two contracts: no program.
-/
import Derived.Test.YtmaiecbhloagoaaGreatDoorPtB
import Derived.Test.YtmaiecbhloagoaaGreatDoorJn
namespace Go.Proofs.YtmaiecbhloagoaaGreatDoor
open Go.Lib
set_option linter.unusedVariables false
set_option linter.unusedSimpArgs false

/-- The text of a term that stands below does not hang on what stands around it. -/
theorem prF_sub {t : List Nd} {p : Nat} (hT : TmA t p) : ∀ f q, q < szA t p → szA t (p + q) ≤ f → prF t f (p + q) = prF (subT t p (szA t p)) f q
  | 0, q, hq, hf => by
    have := (tm_nest hT hq).2.1.bd.1
    omega
  | f + 1, q, hq, hf => by
    obtain ⟨n1, n2, n3, n4⟩ := tm_nest hT hq
    have hb := hT.bd
    have hb2 := n2.bd
    have ho : opA (subT t p (szA t p)) q = opA t (p + q) := subT_op hb.2 hq
    rw [prF, prF, subT_get hb.2 hq, ho]
    have e : uptoT (fun i => prF t f (plA t (p + q + 1) i)) (cnO (opA t (p + q))) = uptoT (fun i => prF (subT t p (szA t p)) f (plA (subT t p (szA t p)) (q + 1) i)) (cnO (opA t (p + q))) := by
      unfold uptoT
      apply List.map_congr_left
      intro i hi
      have hi' : i < cnO (opA t (p + q)) := by simpa using hi
      obtain ⟨k1, k2, k3⟩ := n2.kid hi'
      have hpl := sub_pl hT hq i (by omega)
      have hkb := k1.bd
      rw [← hpl] at k2 k3 hkb ⊢
      exact prF_sub hT f _ (by omega) (by omega)
    rw [e]
/-- Both of two contracts. -/
def andN : Nd := ⟨12, 0, 0, 0, 0⟩
theorem both_parts {A B : List Nd} (hj : jnK andN [A, B] = 0) :
    ofK (andN :: [A, B].flatten) = (2, 0) ∧ (TmA (andN :: [A, B].flatten) 1 ∧ szA (andN :: [A, B].flatten) 1 = A.length ∧ subT (andN :: [A, B].flatten) 1 (szA (andN :: [A, B].flatten) 1) = A) ∧
      (plA (andN :: [A, B].flatten) 1 1 = 1 + A.length ∧ TmA (andN :: [A, B].flatten) (1 + A.length) ∧ szA (andN :: [A, B].flatten) (1 + A.length) = B.length ∧ subT (andN :: [A, B].flatten) (1 + A.length) (szA (andN :: [A, B].flatten) (1 + A.length)) = B) := by
  unfold jnK at hj
  by_cases he : (ofK (andN :: [A, B].flatten)).2 = 0
  · rw [if_neg (fun h => h he)] at hj
    by_cases hp : pcN [A, B] [A, B].length = plL (andN :: [A, B].flatten) 0 (cnO andN.op)
    · obtain ⟨y1, y2, y3, y4, y5⟩ := ofK_zero he
      obtain ⟨_, h2⟩ := join_parts y2 hp
      obtain ⟨a1, a2⟩ := h2 0 (by simp)
      obtain ⟨b1, b2⟩ := h2 1 (by simp)
      have e0 : plA (andN :: [A, B].flatten) 1 0 = 1 := rfl
      rw [e0] at a1 a2
      have a2' : szA (andN :: [A, B].flatten) 1 = A.length := a2
      have e1 : plA (andN :: [A, B].flatten) 1 1 = 1 + A.length := by
        show 1 + szA (andN :: [A, B].flatten) 1 = _
        rw [a2']
      rw [e1] at b1 b2
      have b2' : szA (andN :: [A, B].flatten) (1 + A.length) = B.length := b2
      refine ⟨by rw [ofK_yes y1 y2 y3 y4 y5]; rfl, ⟨a1, a2', ?_⟩, e1, b1, b2', ?_⟩
      · rw [a2']; unfold subT; simp
      · rw [b2']
        unfold subT
        rw [Nat.add_comm 1, List.drop_succ_cons]
        simp
    · rw [if_neg hp] at hj; cases hj
  · rw [if_pos he] at hj; exact absurd hj he
theorem sub_chk {t : List Nd} {p : Nat} {X : List Nd} (h : (ofK t).2 = 0) (hT : TmA t p) (hX : subT t p (szA t p) = X) (hs : mkO (opA t p) = 2) : chkK X = 0 := by
  have := sub_of h hT.lt
  rw [hX, hs] at this
  unfold chkK
  rw [this]; rfl
theorem both_bd {A B : List Nd} (hA : BdT A) (hB : BdT B) : BdT (andN :: [A, B].flatten) := by
  intro p hp
  cases p with
  | zero => exact ⟨by show I64T 0; unfold I64T; omega, by show I64T 0; unfold I64T; omega⟩
  | succ q =>
    have hfl : [A, B].flatten = A ++ B := by simp
    rw [hfl] at hp ⊢
    rw [List.getD_cons_succ]
    rw [List.length_cons, List.length_append] at hp
    by_cases c : q < A.length
    · have : (A ++ B).getD q default = A.getD q default := by
        rw [List.getD_eq_getElem?_getD, List.getD_eq_getElem?_getD, List.getElem?_append_left c]
      rw [this]; exact hA q c
    · have : (A ++ B).getD q default = B.getD (q - A.length) default := by
        rw [List.getD_eq_getElem?_getD, List.getD_eq_getElem?_getD, List.getElem?_append_right (by omega)]
      rw [this]; exact hB _ (by omega)
/-- P6.1: the text of both. -/
theorem both_text {A B : List Nd} (hA : BdT A) (hB : BdT B) (hj : jnK andN [A, B] = 0) :
    chkK (andN :: [A, B].flatten) = 0 ∧ chkK A = 0 ∧ chkK B = 0 ∧ prX (andN :: [A, B].flatten) = [97, 110, 100, 40] ++ prX A ++ [44, 32] ++ prX B ++ [41] ∧
      parT ([97, 110, 100, 40] ++ prX A ++ [44] ++ prX B ++ [41]) = (andN :: [A, B].flatten, 0, 0) := by
  obtain ⟨ho, ⟨a1, a2, a3⟩, e1, b1, b2, b3⟩ := both_parts hj
  have hbd := both_bd hA hB
  have hchk : chkK (andN :: [A, B].flatten) = 0 := by unfold chkK; rw [ho]; rfl
  obtain ⟨h64, hW, hok⟩ := chk_ok hchk hbd
  have he : (ofK (andN :: [A, B].flatten)).2 = 0 := by rw [ho]
  obtain ⟨y1, y2, y3, y4, y5⟩ := ofK_zero he
  have hop : opA (andN :: [A, B].flatten) 0 = 12 := rfl
  have hs := y4 0 (by simp)
  have s0 := hs 0 (by rw [hop]; decide)
  have s1 := hs 1 (by rw [hop]; decide)
  rw [hop] at s0 s1
  have s0' : mkO (opA (andN :: [A, B].flatten) 1) = 2 := s0
  have s1' : mkO (opA (andN :: [A, B].flatten) (1 + A.length)) = 2 := by rw [← e1]; exact s1
  have cA := sub_chk he a1 a3 s0'
  have cB := sub_chk he b1 b3 s1'
  generalize ht : andN :: [A, B].flatten = t at *
  have w := hW.tm
  have hsz : 1 + szA t 1 + szA t (1 + A.length) = szA t 0 := by
    obtain ⟨_, _, hend⟩ := w.1.parts
    rw [hop] at hend
    have : plA t (0 + 1) (cnO 12) = plA t 1 1 + szA t (plA t 1 1) := rfl
    rw [this, e1] at hend
    omega
  have pA : prF t (szA t 0 - 1) 1 = prX A := by
    have := prF_sub a1 (szA t 0 - 1) 0 a1.bd.1 (by rw [Nat.add_zero]; omega)
    rw [Nat.add_zero, a3] at this
    rw [this]
    unfold prX
    rw [if_pos cA]
    obtain ⟨_, hWA, _⟩ := chk_ok cA hA
    exact prF_eq _ 0 hWA.tm.1 (by rw [hWA.tm.2, ← a2]; omega)
  have pB : prF t (szA t 0 - 1) (1 + A.length) = prX B := by
    have := prF_sub b1 (szA t 0 - 1) 0 b1.bd.1 (by rw [Nat.add_zero]; omega)
    rw [Nat.add_zero, b3] at this
    rw [this]
    unfold prX
    rw [if_pos cB]
    obtain ⟨_, hWB, _⟩ := chk_ok cB hB
    exact prF_eq _ 0 hWB.tm.1 (by rw [hWB.tm.2, ← b2]; omega)
  have hd : hdX (t.getD 0 default) = [97, 110, 100] := by rw [← ht]; rfl
  have pT : prX t = [97, 110, 100, 40] ++ prX A ++ [44, 32] ++ prX B ++ [41] := by
    have qT : prX t = prF t (szA t 0) 0 := by unfold prX; rw [if_pos hchk]; rfl
    rw [qT]
    obtain ⟨g, hg⟩ : ∃ g, szA t 0 = g + 1 := ⟨szA t 0 - 1, by omega⟩
    rw [hg] at pA pB ⊢
    rw [Nat.add_sub_cancel] at pA pB
    rw [prF, hop, hd]
    have hu : uptoT (fun i => prF t g (plA t (0 + 1) i)) (cnO 12) = [prX A, prX B] := by
      show [prF t g 1, prF t g (plA t 1 1)] = _
      rw [e1, pA, pB]
    rw [hu, if_neg (by decide)]
    simp [Lib.join]
  refine ⟨hchk, cA, cB, pT, par_tokens hchk hbd ?_⟩
  rw [← tx_prX hchk hbd, pT]
  obtain ⟨_, hWA, okA⟩ := chk_ok cA hA
  obtain ⟨_, hWB, okB⟩ := chk_ok cB hB
  have tA : ∀ r, startsW r = false → tx (prX A ++ r) = tkF A (szA A 0) 0 ++ tx r := by
    unfold prX prT
    rw [if_pos cA]
    exact tx_print okA _ 0 hWA.tm.1 (Nat.le_refl _)
  have tB : ∀ r, startsW r = false → tx (prX B ++ r) = tkF B (szA B 0) 0 ++ tx r := by
    unfold prX prT
    rw [if_pos cB]
    exact tx_print okB _ 0 hWB.tm.1 (Nat.le_refl _)
  have w1 : ∀ r, tx ([97, 110, 100, 40] ++ r) = [97, 110, 100] :: [40] :: tx r := fun r => by
    show tx ([97, 110, 100] ++ 40 :: r) = _
    rw [tx_word (by simp) (by decide) rfl, tx_mark (by decide) (by decide)]
  simp only [List.append_assoc]
  rw [w1, w1, tA _ rfl, tA _ rfl]
  show _ = _ :: _ :: (_ ++ tx (44 :: 32 :: (prX B ++ [41])))
  rw [tx_mark (c := 44) (by decide) (by decide), tx_gap (by decide)]
  show _ :: _ :: (_ ++ tx (44 :: (prX B ++ [41]))) = _
  rw [tx_mark (c := 44) (by decide) (by decide)]

end Go.Proofs.YtmaiecbhloagoaaGreatDoor

namespace Go.Proofs.YtmaiecbhloagoaaGreatDoor
open Go.RowKit Go.Lib
set_option linter.unusedVariables false
set_option linter.unusedSimpArgs false

theorem sl_two {w w' : World} {va vb : Value} {A B : List Nd} (ha : SlT w' va A) (hb : SlT w' vb B) {k : Nat} (h0 : w'.cell? ⟨k, 0, none⟩ = some va) (h1 : w'.cell? ⟨k, 1, none⟩ = some vb) : SlS w' (some ⟨k, 0, none⟩) 2 [A, B] := by
  intro _
  refine ⟨k, 0, rfl, Nat.le_refl _, by decide, fun j hj => ?_⟩
  rcases j with _ | _ | j
  · exact ⟨va, h0, ha⟩
  · exact ⟨vb, h1, hb⟩
  · exact absurd hj (by simp)
theorem join_two6 {n : Nd} {L : List (List Nd)} {w : World} {e : Ending} {w' : World} (h : JoinE n L w e w') : ∃ vj, e = .returned (.tuple #[vj, .int .i64 (jnK n L)]) ∧ (jnK n L ≠ 0 → vj = .slice none 0 0) ∧ (jnK n L = 0 → OwnN w' w.heap.size vj (n :: L.flatten)) := by
  by_cases hk : jnK n L = 0
  · obtain ⟨v', h1, h2⟩ := h.2 hk
    exact ⟨v', by rw [hk]; exact h1, fun h => absurd hk h, fun _ => h2⟩
  · exact ⟨_, h.1 hk, fun _ => rfl, fun h => absurd h hk⟩
theorem prX_lenN {t : List Nd} (hbd : BdT t) : (prX t).length ≤ 43 * t.length := by
  unfold prX
  by_cases h : chkK t = 0
  · rw [if_pos h]
    obtain ⟨h64, hW, hok⟩ := chk_ok h hbd
    have := prF_len43 hok (szA t 0) 0 hW.tm.1 (Nat.le_refl _)
    rw [show prT t 0 = prF t (szA t 0) 0 from rfl]
    have := hW.tm.2
    omega
  · rw [if_neg h]; exact Nat.zero_le _
set_option maxRecDepth 100000 in
set_option maxHeartbeats 4000000 in
theorem joins6_main (A : List Nd) (a1 : Option Addr) (c1 : Nat) (hA : BdT A) (B : List Nd) (a2 : Option Addr) (c2 : Nat) (hB : BdT B) (lA : A.length ≤ 30) (lB : B.length ≤ 30) (w : World) (sA : SlT w (.slice a1 A.length c1) A) (sB : SlT w (.slice a2 B.length c2) B) (T : TabW w) :
    Calls Tryz.prog 8 #[.slice a1 A.length c1, .slice a2 B.length c2] w fun e w' => e = .returned (.bool true) ∧ Below w.heap.size w w' := by
  have i1 : ¬ (30 : Int) < (A.length : Int) := by omega
  have i2 : ¬ (30 : Int) < (B.length : Int) := by omega
  have HAw := Lib.hid (fun (w' : World) (hb : Below w.heap.size w w') => awake6_any w' (T.keep hb))
  have HSA := Lib.hid sA
  have HSB := Lib.hid sB
  have hbd : BdT (andN :: [A, B].flatten) := both_bd hA hB
  have HJ := Lib.hid (fun (w' : World) (hb : Below w.heap.size w w') (aa : Option Addr) (cp : Nat) (hS : SlS w' aa cp [A, B]) => (join_any andN [A, B] (by simp) (fun j hj => by rcases j with _ | _ | j; (show A.length ≤ 1000; omega); (show B.length ≤ 1000; omega); exact absurd hj (by simp)) hbd aa cp w' hS (T.keep hb).knd).mono (fun e w'' h => (⟨join_two6 h.1, h.2⟩ : (∃ vj, e = .returned (.tuple #[vj, .int .i64 (jnK andN [A, B])]) ∧ (jnK andN [A, B] ≠ 0 → vj = .slice none 0 0) ∧ (jnK andN [A, B] = 0 → OwnN w'' w'.heap.size vj (andN :: [A, B].flatten))) ∧ Below w'.heap.size w' w'')))
  by_cases hj : jnK andN [A, B] = 0
  · obtain ⟨b1, b2, b3, b4, b5⟩ := both_text hA hB hj
    have lX : (andN :: [A, B].flatten).length ≤ 100 := by simp; omega
    have HPA := Lib.hid (fun (w' : World) (hb : Below w.heap.size w w') => tprint_any A (by omega) hA _ w' (sA.keep hb) (T.keep hb))
    have HPB := Lib.hid (fun (w' : World) (hb : Below w.heap.size w w') => tprint_any B (by omega) hB _ w' (sB.keep hb) (T.keep hb))
    have HPX := Lib.hid (fun (w' : World) (hb : Below w.heap.size w w') (v : Value) (hv : SlT w' v (andN :: [A, B].flatten)) => tprint_any (andN :: [A, B].flatten) (by omega) hbd v w' hv (T.keep hb))
    have HCk := Lib.hid (fun (w' : World) (hb : Below w.heap.size w w') (v : Value) (hv : SlT w' v (andN :: [A, B].flatten)) => tcheck_any (andN :: [A, B].flatten) (by omega) hbd v w' hv (T.keep hb).knd)
    have HNd := Lib.hid (fun (w' : World) (hb : Below w.heap.size w w') (v1 v2 : Value) => nodes_any (andN :: [A, B].flatten) (by omega) v1 v2 w')
    have hlA := prX_lenN hA
    have hlB := prX_lenN hB
    obtain ⟨Z, hZ⟩ : ∃ Z : List UInt8, Z = [97, 110, 100, 40] ++ prX A ++ [44] ++ prX B ++ [41] := ⟨_, rfl⟩
    have lZ : Z.length ≤ 3000 := by rw [hZ]; simp; omega
    rw [← hZ] at b5
    have HPs := Lib.hid (fun (w' : World) (hb : Below w.heap.size w w') => tparse_any ⟨Z.toArray⟩ (by rw [size_len]; exact lZ) w' (T.keep hb))
    rw [show (⟨Z.toArray⟩ : ByteArray).data.toList = Z from rfl, b5] at HPs
    have HZ := Lib.hid hZ
    clear hZ lZ
    have hz : (⟨#[97, 110, 100, 40]⟩ ++ ⟨(prX A).toArray⟩ ++ ⟨#[44]⟩ ++ ⟨(prX B).toArray⟩ ++ ⟨#[41]⟩ : ByteArray) = ⟨Z.toArray⟩ := by
      rw [HZ.out]; apply ByteArray.ext; simp
    have hz2 : (⟨#[97, 110, 100, 40]⟩ ++ ⟨(prX A).toArray⟩ ++ ⟨#[44, 32]⟩ ++ ⟨(prX B).toArray⟩ ++ ⟨#[41]⟩ : ByteArray) = ⟨([97, 110, 100, 40] ++ prX A ++ [44, 32] ++ prX B ++ [41]).toArray⟩ := by
      apply ByteArray.ext; simp
    rw [← hz] at HPs
    rw [b1, b4] at HPX
    generalize [97, 110, 100, 40] ++ prX A ++ [44, 32] ++ prX B ++ [41] = U at *
    have l5 : ¬ 9223372036854775807 < 4 + (prX A).length + 2 := by omega
    have l6 : ¬ 9223372036854775807 < 4 + (prX A).length + 2 + (prX B).length := by omega
    have l7 : ¬ 9223372036854775807 < 4 + (prX A).length + 2 + (prX B).length + 1 := by omega
    clear hz HZ
    rw [b2] at HPA
    rw [b3] at HPB
    rw [b1] at HCk
    rw [hj] at HJ
    generalize andN :: [A, B].flatten = X at *
    have l1 : ¬ 9223372036854775807 < 4 + (prX A).length := by omega
    have l2 : ¬ 9223372036854775807 < 4 + (prX A).length + 1 := by omega
    have l3 : ¬ 9223372036854775807 < 4 + (prX A).length + 1 + (prX B).length := by omega
    have l4 : ¬ 9223372036854775807 < 4 + (prX A).length + 1 + (prX B).length + 1 := by omega
    generalize prX A = SA at *
    generalize prX B = SB at *
    clear hA hB sA sB T hbd hj b1 b2 b3 b4 b5 hlA hlB lX
    have HLen := Lib.hid lA
    clear lA lB
    go_enter Tryz.func8, Tryz.ntmps8
    go_wp2_with fail
    refine (HJ.out _ (newB _ _) _ _ (sl_two (w := w) (HSA.out.keep (newB _ _)) (HSB.out.keep (newB _ _)) (by rw [World.cell?_alloc_at _ _ _ _ rfl]; rfl) (by rw [World.cell?_alloc_at _ _ _ _ rfl]; rfl))).mono ?_
    rintro e w1 ⟨⟨vj, rfl, _, hj1⟩, hb1⟩
    have HV1 := Lib.hid (hj1 trivial).sl
    obtain ⟨va, vc, rfl⟩ := (hj1 trivial).slice
    have HB1 := Lib.hid (onB (newB _ _) hb1)
    clear hb1 hj1
    go_wp2_with fail
    refine (HCk.out _ HB1.out _ HV1.out).mono ?_
    rintro e w2 ⟨rfl, hb2⟩
    have HB2 := Lib.hid (onB HB1.out hb2)
    have HV2 := Lib.hid (HV1.out.keep hb2)
    clear hb2
    go_wp2_with fail
    refine (HPA.out _ HB2.out).mono ?_
    rintro e w3 ⟨rfl, hb3⟩
    have HB3 := Lib.hid (onB HB2.out hb3)
    have HV3 := Lib.hid (HV2.out.keep hb3)
    clear hb3
    go_wp2_with fail
    refine (HPB.out _ HB3.out).mono ?_
    rintro e w4 ⟨rfl, hb4⟩
    have HB4 := Lib.hid (onB HB3.out hb4)
    have HV4 := Lib.hid (HV3.out.keep hb4)
    clear hb4
    go_wp2_with fail
    refine (HPX.out _ HB4.out _ HV4.out).mono ?_
    rintro e w5 ⟨rfl, hb5⟩
    have HB5 := Lib.hid (onB HB4.out hb5)
    have HV5 := Lib.hid (HV4.out.keep hb5)
    clear hb5
    go_wp2_with fail
    refine (HPs.out _ HB5.out).mono ?_
    rintro e w6 ⟨vx, rfl, hx, hb6⟩
    have HX6 := Lib.hid hx.sl
    obtain ⟨xa, xc, rfl⟩ := hx.slice
    have HV6 := Lib.hid (HV5.out.keep hb6)
    have HB6 := Lib.hid (onB HB5.out hb6)
    clear hb6 hx
    go_wp2_with fail
    refine (HNd.out _ HB6.out _ _ HX6.out HV6.out).mono ?_
    rintro e w7 ⟨rfl, hb7⟩
    have HB7 := Lib.hid (onB HB6.out hb7)
    clear hb7
    go_wp2_with fail
    refine (HAw.out _ HB7.out).mono ?_
    rintro e w8 ⟨rfl, hb8⟩
    have HB8 := Lib.hid (onB HB7.out hb8)
    clear hb8
    go_wp2_with fail
    go_ret
    exact ⟨rfl, HB8.out⟩
  · have j1 : ((jnK andN [A, B] : Int) == 0) = false := by simp; omega
    generalize jnK andN [A, B] = r at *
    clear hA hB sA sB T hbd
    have HLen := Lib.hid lA
    clear lA lB
    go_enter Tryz.func8, Tryz.ntmps8
    go_wp2_with fail
    refine (HJ.out _ (newB _ _) _ _ (sl_two (w := w) (HSA.out.keep (newB _ _)) (HSB.out.keep (newB _ _)) (by rw [World.cell?_alloc_at _ _ _ _ rfl]; rfl) (by rw [World.cell?_alloc_at _ _ _ _ rfl]; rfl))).mono ?_
    rintro e w1 ⟨⟨vj, rfl, hj0, _⟩, hb1⟩
    obtain rfl := hj0 hj
    have HB1 := Lib.hid (onB (newB _ _) hb1)
    clear hb1 hj0
    go_wp2_with fail
    refine (HAw.out _ HB1.out).mono ?_
    rintro e w2 ⟨rfl, hb2⟩
    have HB2 := Lib.hid (onB HB1.out hb2)
    clear hb2
    go_wp2_with fail
    go_ret
    exact ⟨rfl, HB2.out⟩

set_option maxRecDepth 100000 in
set_option maxHeartbeats 4000000 in
theorem joins6_long (A : List Nd) (a1 : Option Addr) (c1 : Nat) (B : List Nd) (a2 : Option Addr) (c2 : Nat) (h : 30 < A.length ∨ A.length ≤ 30 ∧ 30 < B.length) (w : World) (T : TabW w) :
    Calls Tryz.prog 8 #[.slice a1 A.length c1, .slice a2 B.length c2] w fun e w' => e = .returned (.bool true) ∧ Below w.heap.size w w' := by
  have HAw := Lib.hid (fun (w' : World) (hb : Below w.heap.size w w') => awake6_any w' (T.keep hb))
  rcases h with h | ⟨h, h2⟩
  · have i1 : (30 : Int) < (A.length : Int) := by omega
    clear T h
    go_enter Tryz.func8, Tryz.ntmps8
    go_wp2_with fail
    refine (HAw.out _ (Below.refl _ _)).mono ?_
    rintro e w1 ⟨rfl, hb1⟩
    go_wp2_with fail
    go_ret
    exact ⟨rfl, hb1⟩
  · have i1 : ¬ (30 : Int) < (A.length : Int) := by omega
    have i2 : (30 : Int) < (B.length : Int) := by omega
    clear T h h2
    go_enter Tryz.func8, Tryz.ntmps8
    go_wp2_with fail
    refine (HAw.out _ (Below.refl _ _)).mono ?_
    rintro e w1 ⟨rfl, hb1⟩
    go_wp2_with fail
    go_ret
    exact ⟨rfl, hb1⟩
theorem joins6_walk (A : List Nd) (a1 : Option Addr) (c1 : Nat) (hlA : A.length ≤ 9223372036854775807) (hA : BdT A) (B : List Nd) (a2 : Option Addr) (c2 : Nat) (hlB : B.length ≤ 9223372036854775807) (hB : BdT B) (w : World) (sA : SlT w (.slice a1 A.length c1) A) (sB : SlT w (.slice a2 B.length c2) B) (T : TabW w) :
    Calls Tryz.prog 8 #[.slice a1 A.length c1, .slice a2 B.length c2] w fun e w' => e = .returned (.bool true) ∧ Below w.heap.size w w' := by
  by_cases h1 : 30 < A.length
  · exact joins6_long A a1 c1 B a2 c2 (.inl h1) w T
  · by_cases h2 : 30 < B.length
    · exact joins6_long A a1 c1 B a2 c2 (.inr ⟨by omega, h2⟩) w T
    · exact joins6_main A a1 c1 hA B a2 c2 hB (by omega) (by omega) w sA sB T

end Go.Proofs.YtmaiecbhloagoaaGreatDoor

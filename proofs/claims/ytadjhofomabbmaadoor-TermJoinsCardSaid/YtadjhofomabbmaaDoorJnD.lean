/-
  chattellaw05: TermJoins's walk.
-/
import Derived.Test.YtadjhofomabbmaaDoorJnC
namespace Go.Proofs.YtadjhofomabbmaaDoor
open Go.RowKit Go.Lib
set_option linter.unusedVariables false
set_option linter.unusedSimpArgs false

theorem join_two {n : Nd} {L : List (List Nd)} {w : World} {e : Ending} {w' : World} (h : JoinE n L w e w') : ∃ vj, e = .returned (.tuple #[vj, .int .i64 (jnK n L)]) ∧ (jnK n L ≠ 0 → vj = .slice none 0 0) ∧ (jnK n L = 0 → OwnN w' w.heap.size vj (n :: L.flatten)) := by
  by_cases hk : jnK n L = 0
  · obtain ⟨v', h1, h2⟩ := h.2 hk
    exact ⟨v', by rw [hk]; exact h1, fun h => absurd hk h, fun _ => h2⟩
  · exact ⟨_, h.1 hk, fun _ => rfl, fun h => absurd h hk⟩
theorem fitJ_zero (L : List (List Nd)) (pl : List Int) : ((pl.length : Int) == (L.length : Int)) = fitJ L pl 0 := by
  unfold fitJ
  by_cases h : pl.length = L.length
  · rw [decide_eq_true h, h]; simp
  · rw [decide_eq_false h, beq_false_of_ne (by omega)]
/-- Where the nodes of a slice of the call's own lie. -/
theorem own_nd {w : World} {base b o cap : Nat} {t : List Nd} (h : OwnN w base (.slice (some ⟨b, o, none⟩) t.length cap) t) : NdA w b o t := by
  rcases h.sl with ⟨rfl, _⟩ | ⟨_, b', o', cap', e, _, _, hN⟩
  · exact fun j hj => absurd hj (Nat.not_lt_zero _)
  · injection e with e1 _ _
    injection e1 with e1
    injection e1 with e1 e2
    subst e1 e2
    exact hN
theorem ret_intJ {a b : Int} (h : a = b) : Value.int .i64 a = .int .i64 b := by rw [h]
theorem ret_bJ {a b : Bool} (h : a = b) : Value.bool a = .bool b := by rw [h]

theorem size_part {n : Nd} {L : List (List Nd)} {t : List Nd} (hte : t = n :: L.flatten) (he : (ofK t).2 = 0) (hq : pcN L L.length = plL t 0 (cnO (opA t 0))) (hl : t.length ≤ 1000) (b o cap : Nat) (hcap : t.length ≤ cap) (hcm : cap ≤ 9223372036854775807) :
    ∀ i, i < L.length → ∀ w' (_ : NdA w' b o t) (_ : KndW w'), Calls Tryd.prog 19 #[.slice (some ⟨b, o, none⟩) t.length cap, .int .i64 ((plL t 0 (cnO (opA t 0))).getD i 0)] w' fun e w'' => e = .returned (.tuple #[.int .i64 (((L.getD i []).length : Nat) : Int), .int .i64 0]) ∧ Below w'.heap.size w' w'' := by
  intro i hi w' hN C
  subst hte
  have hw := (ofK_zero he).2.1
  rw [show opA (n :: L.flatten) 0 = n.op from rfl] at hq ⊢
  obtain ⟨h1, h2⟩ := join_parts hw hq
  obtain ⟨h3, h4⟩ := h2 i hi
  have e1 : (plL (n :: L.flatten) 0 (cnO n.op)).getD i 0 = ((plA (n :: L.flatten) 1 i : Nat) : Int) := by
    unfold plL uptoT
    rw [List.getD_eq_getElem?_getD, List.getElem?_map, List.getElem?_range (by omega)]; rfl
  rw [e1]
  have h5 := size_in (n :: L.flatten) (by omega) b o cap hcap hcm _ h3.lt w' hN C
  rw [szE_ok h3, h4] at h5
  exact h5

set_option maxHeartbeats 2000000 in
set_option maxRecDepth 100000 in
theorem joins_far (n : Nd) (a : Option Addr) (len cap : Nat) (h : 6 < len) (hl : len ≤ 9223372036854775807) (w : World) (C : KndW w) :
    Calls Tryd.prog 8 #[.agg (ndC n), .slice a len cap] w fun e w' => e = .returned (.bool true) ∧ Below w.heap.size w w' := by
  have HAw := Lib.hid (fun w C => awake5_any w C)
  have HC := Lib.hid C
  have h1 : (6 : Int) < (len : Int) := by omega
  unfold ndC
  have HB := Lib.hid (newB w (.cells #[.int .i64 n.op, .int .i64 n.a, .int .i64 n.b, .int .i64 n.num, .int .i64 n.den] 55))
  clear C
  go_enter Tryd.func8, Tryd.ntmps8
  go_wp2_with fail
  refine (HAw.out _ (HC.out.keep HB.out)).mono ?_
  rintro e w1 ⟨rfl, hb⟩
  go_wp2_with fail
  go_ret
  exact ⟨rfl, onB HB.out hb⟩

set_option maxHeartbeats 8000000 in
set_option maxRecDepth 100000 in
theorem joins_main (n : Nd) (L : List (List Nd)) (hL : L.length ≤ 6) (hbd : BdT (n :: L.flatten)) (hlm : ∀ j, j < L.length → (L.getD j []).length ≤ 9223372036854775807) (a : Option Addr) (cap : Nat) (w : World) (hs : SlS w a cap L) (C : KndW w) :
    Calls Tryd.prog 8 #[.agg (ndC n), .slice a L.length cap] w fun e w' => e = .returned (.bool true) ∧ Below w.heap.size w w' := by
  have HAw := Lib.hid (fun w C => awake5_any w C)
  have HBd := Lib.hid hbd
  have HLm := Lib.hid hlm
  have hnew := newB w (.cells #[.int .i64 n.op, .int .i64 n.a, .int .i64 n.b, .int .i64 n.num, .int .i64 n.den] 55)
  have HNew := Lib.hid hnew
  have HC := Lib.hid (C.keep hnew)
  have HS := Lib.hid (hs.keep hnew)
  have HBox : Hid (NdC (w.alloc (.cells #[.int .i64 n.op, .int .i64 n.a, .int .i64 n.b, .int .i64 n.num, .int .i64 n.den] 55)) w.heap.size 0 n) := Lib.hid (by
    refine ⟨?_, ?_, ?_, ?_, ?_⟩
    all_goals rw [World.cell?_alloc_at _ _ _ _ rfl]
    all_goals rfl)
  have HO0 := Lib.hid (OwnN.one (w.alloc (.cells #[.int .i64 n.op, .int .i64 n.a, .int .i64 n.b, .int .i64 n.num, .int .i64 n.den] 55)) (w.heap.size + 1) n (by simp)).sl
  rw [World.size_alloc] at HO0
  have h1 : ¬ (6 : Int) < (L.length : Int) := by omega
  unfold ndC
  clear C hs hbd hlm hnew
  go_enter Tryd.func8, Tryd.ntmps8
  go_wp2_with (at_builtin; refine wpList_append_nodes rfl (.tmp 24) (.tmp 26) rfl (w.heap.size + 1) _ [] rfl (OwnN.nil _ _) _ [n] rfl HO0.out (by simp) (by simp) ?_; intro va w2 ho hg hat)
  have HB2 : Hid (Below (w.alloc (.cells #[.int .i64 n.op, .int .i64 n.a, .int .i64 n.b, .int .i64 n.num, .int .i64 n.den] 55)).heap.size (w.alloc (.cells #[.int .i64 n.op, .int .i64 n.a, .int .i64 n.b, .int .i64 n.num, .int .i64 n.den] 55)) w2) := Lib.hid (below_nodes (newB _ _) (OwnN.nil _ _) (Nat.le_refl _) (by simp) hg)
  have HO2 := Lib.hid ho
  rw [← World.size_alloc w (.cells #[.int .i64 n.op, .int .i64 n.a, .int .i64 n.b, .int .i64 n.num, .int .i64 n.den] 55)] at HO2
  clear ho hg hat HO0
  generalize w.alloc (.cells #[.int .i64 n.op, .int .i64 n.a, .int .i64 n.b, .int .i64 n.num, .int .i64 n.den] 55) = W1 at *
  go_loopw [5, 6] (fun va vk wx => ∃ k : Nat, k ≤ L.length ∧ vk = .int .i64 k ∧ OwnN wx W1.heap.size va (jnN n L k) ∧ (∀ j, j < k → (L.getD j []).length ≤ 70) ∧ (jnN n L k).length ≤ 1 + 70 * k ∧ Below W1.heap.size W1 wx) (fun _ vk _ => L.length - (RowKit.intOf vk).toNat)
  case atStart => exact ⟨0, Nat.zero_le _, rfl, by rw [jnN_zero]; exact HO2.out, fun j hj => absurd hj (Nat.not_lt_zero _), by rw [jnN_zero]; simp, HB2.out⟩
  case round =>
    obtain ⟨k, hk, rfl, hot, h70, hjl, hb⟩ := hrel
    have HB := Lib.hid hb
    have HT := Lib.hid hot
    have H70 := Lib.hid h70
    by_cases hlt : k < L.length
    · have HJ := Lib.hid (jnN_succ n L k hlt)
      obtain ⟨b, o, rfl, hc1, hc2, hcs⟩ := HS.out (by omega)
      obtain ⟨vj, hvj, hsj⟩ := hcs k hlt
      obtain ⟨aj, cj, rfl⟩ := hsj.slice
      have hcell := keepT hb hvj
      have HSj := Lib.hid (hsj.keep hb)
      have hum := HLm.out k hlt
      have HU : Hid (L.getD k [] = L.getD k []) := Lib.hid rfl
      have j0 : (0 : Int) ≤ (k : Int) := by omega
      have j1 : (k : Int) < (L.length : Int) := by omega
      have j2 : (L.length : Int) ≤ (cap : Int) := by omega
      by_cases hg : 70 < (L.getD k []).length
      · have hg' : (70 : Int) < ((L.getD k []).length : Int) := by omega
        clear hcs hvj hsj hot hb h70 HO2 HB2 HU
        generalize L.getD k [] = u at *
        go_wp2_with fail
        refine (HAw.out _ (HC.out.keep HB.out)).mono ?_
        rintro e w3 ⟨rfl, hb3⟩
        go_wp2_with fail
        go_ret
        exact ⟨rfl, onB HNew.out (onB HB.out hb3)⟩
      · have hg' : ¬ (70 : Int) < ((L.getD k []).length : Int) := by omega
        have HG : Hid ((L.getD k []).length ≤ 70) := Lib.hid (by omega)
        have hsz := hb.size
        have hl70 : (L.getD k []).length ≤ 70 := by omega
        clear hcs hvj hsj hot hb h70 HO2 HB2 HU hg hum
        have HU := Lib.hid (show ∃ u, L.getD k [] = u from ⟨_, rfl⟩)
        generalize hu : L.getD k [] = u at *
        have HUe := Lib.hid hu
        generalize jnN n L k = t at *
        clear hu
        go_wp2_with (at_builtin; refine wpList_append_nodes rfl (.tmp 41) (.tmp 45) rfl W1.heap.size _ t rfl HT.out _ u rfl HSj.out (by omega) hsz ?_; intro va' w3 ho' hgr' hat'; have HB3 := Lib.hid (below_nodes HB.out HT.out (Nat.le_refl _) hsz hgr'); have HT3 := Lib.hid ho'; clear ho' hgr' hat' hsz)
        go_roundw
        case rel =>
          refine ⟨k + 1, by omega, by go_num, by rw [HJ.out]; exact HT3.out, fun j hj => ?_, by rw [HJ.out, List.length_append]; omega, HB3.out⟩
          by_cases e : j = k
          · subst e; rw [HUe.out]; exact HG.out
          · exact H70.out j (by omega)
        case measure => simp [RowKit.intOf]; omega
    · obtain rfl : k = L.length := by omega
      have hte := jnN_all n L
      have HJn := Lib.hid ((join_any n L (by omega) (fun j hj => by have := h70 j hj; omega) HBd.out a cap wr (HS.out.keep hb) (HC.out.keep hb)).mono (fun e w' h => (⟨join_two h.1, h.2⟩ : (∃ vj, e = .returned (.tuple #[vj, .int .i64 (jnK n L)]) ∧ (jnK n L ≠ 0 → vj = .slice none 0 0) ∧ (jnK n L = 0 → OwnN w' wr.heap.size vj (n :: L.flatten))) ∧ Below wr.heap.size wr w')))
      have HR : Hid (jnK n L = if (ofK (n :: L.flatten)).2 ≠ 0 then (ofK (n :: L.flatten)).2 else if pcN L L.length = plL (n :: L.flatten) 0 (cnO (opA (n :: L.flatten) 0)) then 0 else 14) := Lib.hid rfl
      have HMo := Lib.hid (fun i hi => jnN_mono n L (j := i) (k := L.length) hi)
      unfold ndC at HJn
      rw [← hte] at HJn HR HBd
      have hlt2 : (jnN n L L.length).length ≤ 421 := by omega
      obtain ⟨av, cv, rfl⟩ := hot.slice
      clear HO2 HB2 hot h70 hb hjl
      generalize hgt : jnN n L L.length = t at *
      have HTe := Lib.hid hte
      generalize jnK n L = jk at *
      obtain ⟨c0, c1, c2, c3, c4⟩ := HBox.out.keep HB.out
      simp only [Nat.zero_add] at c1 c2 c3 c4
      have j1 : ¬ ((L.length : Nat) : Int) < ((L.length : Nat) : Int) := by omega
      have hsl := HT.out.sl
      have HOf := Lib.hid (fun w' hs C => tof_any t (by omega) HBd.out (.slice av t.length cv) w' hs C)
      rcases hsl with ⟨h, _⟩ | ⟨h0, b, o, cap', e, h2, h3, hN⟩
      · exact absurd (h.symm.trans HTe.out) (by simp)
      · injection e with e1 e2 e3
        subst e1 e3
        clear hN hgt hte
        by_cases he : (ofK t).2 = 0
        · have hw := (ofK_zero he).2.1.tm.1
          have hof : ofK t = (mkO n.op, 0) := by
            obtain ⟨y1, y2, y3, y4, y5⟩ := ofK_zero he
            rw [ofK_yes y1 y2 y3 y4 y5, show opA t 0 = n.op by rw [HTe.out]; rfl]
          have HBl := Lib.hid (fun w' hN C => below_ok t (by omega) b o cv 0 h2 h3 hw w' hN C)
          have HR2 : Hid (jk = if pcN L L.length = plL t 0 (cnO (opA t 0)) then 0 else 14) := Lib.hid (by rw [HR.out, if_neg (by simp [he])])
          have hpc : (plL t 0 (cnO (opA t 0))).length ≤ 4 := by rw [plL_len]; exact cn_le _
          have HSz := Lib.hid (fun hq => size_part HTe.out he hq (by omega) b o cv h2 h3)
          have HSo := Lib.hid (fun w' C => tsort_any n.op w' C)
          rw [hof] at HOf
          clear HR hw he hof
          generalize mkO n.op = so at *
          generalize plL t 0 (cnO (opA t 0)) = pl at *
          go_wp2_with fail
          refine HJn.out.mono ?_
          rintro e w3 ⟨⟨vj, rfl, hj0, hj1⟩, hb3⟩
          have HB3 := Lib.hid (onB HB.out hb3)
          have HT3 := Lib.hid (HT.out.grown hb3)
          have HJ0 := Lib.hid hj0
          have HJ1 := Lib.hid hj1
          clear hb3 hj0 hj1
          go_wp2_with fail
          refine (HOf.out w3 HT3.out.sl (HC.out.keep HB3.out)).mono ?_
          rintro e w4 ⟨rfl, hb4⟩
          have HB4 := Lib.hid (onB HB3.out hb4)
          have HT4 := Lib.hid (HT3.out.grown hb4)
          have HJ4 : Hid (jk = 0 → OwnN w4 wr.heap.size vj t) := Lib.hid (fun h => (HJ1.out h).grown hb4)
          clear hb4
          go_wp2_with fail
          refine (HBl.out w4 (own_nd HT4.out) (HC.out.keep HB4.out)).mono ?_
          rintro e w5 ⟨vu, rfl, hou, hb5⟩
          obtain ⟨au, cu, rfl⟩ := own_len hou
          have HB5 := Lib.hid (onB HB4.out hb5)
          have HT5 := Lib.hid (HT4.out.grown hb5)
          have HJ5 : Hid (jk = 0 → OwnN w5 wr.heap.size vj t) := Lib.hid (fun h => (HJ4.out h).grown hb5)
          have HU5 := Lib.hid hou
          have cb := (HBox.out.keep HB5.out).c0
          clear hb5 hou c0 c1 c2 c3 c4
          go_wp2_with fail
          refine (HSo.out w5 (HC.out.keep HB5.out)).mono ?_
          rintro e w6 ⟨rfl, hb6⟩
          have HB6 := Lib.hid (onB HB5.out hb6)
          have HT6 := Lib.hid (HT5.out.grown hb6)
          have HJ6 : Hid (jk = 0 → OwnN w6 wr.heap.size vj t) := Lib.hid (fun h => (HJ5.out h).grown hb6)
          have HU6 := Lib.hid (HU5.out.grown hb6)
          clear hb6 cb
          go_wp2_with fail
          have HAll := Lib.hid (fitJ_all L pl)
          go_loopw [13, 14, 15] (fun vf vat vi wx => ∃ i : Nat, i ≤ L.length ∧ vi = .int .i64 i ∧ vat = .int .i64 ((jnN n L i).length : Nat) ∧ vf = .bool (fitJ L pl i) ∧ wx = w6) (fun _ _ vi _ => L.length - (RowKit.intOf vi).toNat)
          case atStart => exact ⟨0, Nat.zero_le _, rfl, by rw [jnN_zero]; rfl, ret_bJ (fitJ_zero L pl), rfl⟩
          case round =>
            obtain ⟨i, hi, rfl, rfl, rfl, hw⟩ := hrel
            have hw' := hw.symm
            subst hw'
            clear hw
            by_cases hlt : i < L.length
            · obtain ⟨bb, oo, rfl, hc1, hc2, hcs⟩ := HS.out (by omega)
              obtain ⟨vl, hvl, hsl⟩ := hcs i hlt
              obtain ⟨al, cl, rfl⟩ := hsl.slice
              have hcell := keepT HB6.out hvl
              have HA : Hid ((jnN n L (i + 1)).length = (jnN n L i).length + (L.getD i []).length) := Lib.hid (by rw [jnN_succ n L i hlt, List.length_append])
              have HF : Hid (fitJ L pl (i + 1) = (fitJ L pl i && decide (i < pl.length) && decide (pl.getD i 0 = ((jnN n L i).length : Int)))) := Lib.hid (by rw [jnN_len]; rfl)
              have hm := HMo.out (i + 1) hlt
              rw [HA.out] at hm
              have j0 : (0 : Int) ≤ (i : Int) := by omega
              have jl : (i : Int) < (L.length : Int) := by omega
              have jc : (L.length : Int) ≤ (cap : Int) := by omega
              have m1 : ((jnN n L i).length : Int) + ((L.getD i []).length : Int) ≤ 421 := by omega
              clear hcs hvl hsl
              generalize (L.getD i []).length = q at *
              generalize (jnN n L i).length = A at *
              generalize fitJ L pl i = f at *
              cases f with
              | false =>
                go_wp2_with fail
                go_roundw
                case rel => exact ⟨i + 1, by omega, by go_num, by rw [HA.out]; go_num, by rw [HF.out]; simp, by first | rfl | trivial⟩
                case measure => simp [RowKit.intOf]; omega
              | true =>
                by_cases hp : i < pl.length
                · rcases HU6.out.reads with ⟨e, _⟩ | ⟨g, cap2, e, _, _, hr⟩
                  · injection e with _ e2 _
                    omega
                  · injection e with e1 e2 e3
                    subst e1 e3
                    have hx := hr i hp
                    simp only [Nat.zero_add] at hx
                    have jp : (i : Int) < (pl.length : Int) := by omega
                    have hpd : decide (i < pl.length) = true := decide_eq_true hp
                    rw [hpd] at HF
                    clear hr hpd
                    generalize pl.getD i 0 = x at *
                    by_cases hxa : x = (A : Int)
                    · have hb : (x == (A : Int)) = true := by rw [hxa]; simp
                      rw [decide_eq_true hxa] at HF
                      clear hxa
                      go_wp2_with fail
                      go_roundw
                      case rel => exact ⟨i + 1, by omega, by go_num, by rw [HA.out]; go_num, by rw [HF.out]; rfl, by first | rfl | trivial⟩
                      case measure => simp [RowKit.intOf]; omega
                    · have hb : (x == (A : Int)) = false := beq_false_of_ne hxa
                      rw [decide_eq_false hxa] at HF
                      clear hxa
                      go_wp2_with fail
                      go_roundw
                      case rel => exact ⟨i + 1, by omega, by go_num, by rw [HA.out]; go_num, by rw [HF.out]; rfl, by first | rfl | trivial⟩
                      case measure => simp [RowKit.intOf]; omega
                · have jp : ¬ (i : Int) < (pl.length : Int) := by omega
                  have hpd : decide (i < pl.length) = false := decide_eq_false hp
                  rw [hpd] at HF
                  clear hpd
                  go_wp2_with fail
                  go_roundw
                  case rel => exact ⟨i + 1, by omega, by go_num, by rw [HA.out]; go_num, by rw [HF.out]; simp, by first | rfl | trivial⟩
                  case measure => simp [RowKit.intOf]; omega
            · obtain rfl : i = L.length := by omega
              rw [HAll.out]
              by_cases hq : pcN L L.length = pl
              · have hjk : jk = 0 := by rw [HR2.out, if_pos hq]
                have HV := Lib.hid (HJ6.out hjk)
                have HSz2 := Lib.hid (HSz.out hq)
                have HPl : Hid (pl.length = L.length) := Lib.hid (by rw [← hq, pcN_len])
                have hjb : ((jk : Int) == 0) = true := by rw [hjk]; rfl
                have hend : (jnN n L L.length).length = t.length := by rw [jnN_all, ← HTe.out]
                have HEnd := Lib.hid hend
                rw [decide_eq_true hq]
                clear hq HR2 HAll hend hjk
                go_wp2_with fail
                go_loopw [16, 17] (fun vs vi wx => ∃ i : Nat, i ≤ L.length ∧ vi = .int .i64 i ∧ vs = .int .i64 ((jnN n L i).length : Nat) ∧ Below w6.heap.size w6 wx) (fun _ vi _ => L.length - (RowKit.intOf vi).toNat)
                case atStart => exact ⟨0, Nat.zero_le _, rfl, by rw [jnN_zero]; rfl, Below.refl _ _⟩
                case round =>
                  obtain ⟨i, hi, rfl, rfl, hb7⟩ := hrel
                  have HB7 := Lib.hid (onB HB6.out hb7)
                  have HB6w := Lib.hid hb7
                  have HT7 := Lib.hid (HT6.out.grown hb7)
                  by_cases hlt : i < L.length
                  · obtain ⟨bb, oo, rfl, hc1, hc2, hcs⟩ := HS.out (by omega)
                    obtain ⟨vl, hvl, hsl⟩ := hcs i hlt
                    obtain ⟨al, cl, rfl⟩ := hsl.slice
                    have HCl : Hid (∀ w', Below W1.heap.size W1 w' → w'.cell? ⟨bb, oo + i, none⟩ = some (.slice al (L.getD i []).length cl)) := Lib.hid (fun w' hb => keepT hb hvl)
                    have HA : Hid ((jnN n L (i + 1)).length = (jnN n L i).length + (L.getD i []).length) := Lib.hid (by rw [jnN_succ n L i hlt, List.length_append])
                    have hm := HMo.out (i + 1) hlt
                    rw [HA.out] at hm
                    have j0 : (0 : Int) ≤ (i : Int) := by omega
                    have jl : (i : Int) < (L.length : Int) := by omega
                    have jc : (L.length : Int) ≤ (cap : Int) := by omega
                    have jp : (i : Int) < (pl.length : Int) := by have := HPl.out; omega
                    have m1 : ((jnN n L i).length : Int) + ((L.getD i []).length : Int) ≤ 421 := by omega
                    have HSi := Lib.hid (HSz2.out i hlt)
                    rcases HU6.out.reads with ⟨e, _⟩ | ⟨g, cap2, e, _, _, hr⟩
                    · injection e with _ e2 _
                      have := HPl.out
                      omega
                    · injection e with e1 e2 e3
                      subst e1 e3
                      have hx := keepT hb7 (hr i (by have := HPl.out; omega))
                      simp only [Nat.zero_add] at hx
                      clear hcs hvl hsl hr hb7
                      generalize (L.getD i []).length = q at *
                      generalize (jnN n L i).length = A at *
                      generalize pl.getD i 0 = x at *
                      go_wp2_with fail
                      refine (HSi.out _ (own_nd HT7.out) (HC.out.keep HB7.out)).mono ?_
                      rintro e w8 ⟨rfl, hb8⟩
                      have HB8 := Lib.hid (onB HB7.out hb8)
                      have HB68 := Lib.hid (onB HB6w.out hb8)
                      have hcell := HCl.out w8 HB8.out
                      clear hb8
                      go_wp2_with fail
                      go_roundw
                      case rel => exact ⟨i + 1, by omega, by go_num, by rw [HA.out]; go_num, HB68.out⟩
                      case measure => simp [RowKit.intOf]; omega
                  · obtain rfl : i = L.length := by omega
                    rw [HEnd.out]
                    have HV7 := Lib.hid (HV.out.grown hb7)
                    have HNd := Lib.hid (nodes_any t (by omega) vj (.slice (some ⟨b, o, none⟩) t.length cv) wr HV7.out.sl HT7.out.sl)
                    have jp : ¬ ((L.length : Nat) : Int) < (pl.length : Int) := by have := HPl.out; omega
                    clear hb7
                    go_wp2_with fail
                    refine HNd.out.mono ?_
                    rintro e w8 ⟨rfl, hb8⟩
                    have HB8 := Lib.hid (onB HB7.out hb8)
                    clear hb8
                    go_wp2_with fail
                    refine (HAw.out _ (HC.out.keep HB8.out)).mono ?_
                    rintro e w9 ⟨rfl, hb9⟩
                    go_wp2_with fail
                    go_ret
                    exact ⟨rfl, onB HNew.out (onB HB8.out hb9)⟩
              · have hjk : jk = 14 := by rw [HR2.out, if_neg hq]
                have hvj := HJ0.out (by rw [hjk]; decide)
                subst hjk hvj
                rw [decide_eq_false hq]
                clear hq HR2 HAll
                go_wp2_with fail
                refine (HAw.out _ (HC.out.keep HB6.out)).mono ?_
                rintro e w7 ⟨rfl, hb7⟩
                go_wp2_with fail
                go_ret
                exact ⟨rfl, onB HNew.out (onB HB6.out hb7)⟩
        · have HJk : Hid (jk = (ofK t).2) := Lib.hid (by rw [HR.out, if_pos he])
          have HE := Lib.hid he
          have heb : (((ofK t).2 : Int) == 0) = false := beq_false_of_ne (by omega)
          clear HR he
          generalize (ofK t).1 = s0 at *
          generalize (ofK t).2 = e0 at *
          go_wp2_with fail
          refine HJn.out.mono ?_
          rintro e w3 ⟨⟨vj, rfl, hj0, hj1⟩, hb3⟩
          have hje := HJk.out
          have hvj := hj0 (by rw [hje]; exact HE.out)
          subst hje hvj
          have HB3 := Lib.hid (onB HB.out hb3)
          have HT3 := Lib.hid (HT.out.grown hb3)
          clear hb3 hj0 hj1
          go_wp2_with fail
          refine (HOf.out w3 HT3.out.sl (HC.out.keep HB3.out)).mono ?_
          rintro e w4 ⟨rfl, hb4⟩
          have HB4 := Lib.hid (onB HB3.out hb4)
          clear hb4
          go_wp2_with fail
          refine (HAw.out _ (HC.out.keep HB4.out)).mono ?_
          rintro e w5 ⟨rfl, hb5⟩
          go_wp2_with fail
          go_ret
          exact ⟨rfl, onB HNew.out (onB HB4.out hb5)⟩

theorem joins_walk (n : Nd) (L : List (List Nd)) (hbd : BdT (n :: L.flatten)) (hlm : ∀ j, j < L.length → (L.getD j []).length ≤ 9223372036854775807) (hl : L.length ≤ 9223372036854775807) (a : Option Addr) (cap : Nat) (w : World) (hs : SlS w a cap L) (C : KndW w) :
    Calls Tryd.prog 8 #[.agg (ndC n), .slice a L.length cap] w fun e w' => e = .returned (.bool true) ∧ Below w.heap.size w w' := by
  by_cases h : 6 < L.length
  · exact joins_far n a _ cap h hl w C
  · exact joins_main n L (by omega) hbd hlm a cap w hs C

end Go.Proofs.YtadjhofomabbmaaDoor

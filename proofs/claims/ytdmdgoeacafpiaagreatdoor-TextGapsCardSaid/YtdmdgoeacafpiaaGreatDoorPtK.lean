/-
  chattellaw06.TextGaps: its walk.
-/
import Derived.Test.YtdmdgoeacafpiaaGreatDoorPr
import Derived.Test.YtdmdgoeacafpiaaGreatDoorPq
import Derived.Test.YtdmdgoeacafpiaaGreatDoorPsR
import Derived.Test.YtdmdgoeacafpiaaGreatDoorFrame
import Derived.Deep.CutRange
namespace Go.Proofs.YtdmdgoeacafpiaaGreatDoor
open Go.RowKit Go.Lib
set_option linter.unusedVariables false
set_option linter.unusedSimpArgs false

theorem parT_len (l : List UInt8) : (parT l).1.length ≤ 1000 := by
  by_cases h : (parT l).2.2 = 0
  · obtain ⟨c1, c2, _⟩ := par_chk (l := l) (t := (parT l).1) (a := (parT l).2.1) (by rw [← h])
    have h2 := (chk_ok c1 c2).1
    omega
  · rw [(par_bad h).1]; exact Nat.zero_le _
/-- Numbers that came in, by index. -/
theorem kG_row {w : World} {a : Option Addr} {len cap : Nat} {zs : List Int} (hr : IsRow .i64 w a len cap zs) : ∃ L : List Int, L.length = len ∧
    ∀ n, n < len → ∃ b o, a = some ⟨b, o, none⟩ ∧ b < w.heap.size ∧ w.cell? ⟨b, o + n, none⟩ = some (.int .i64 (kG L n)) := by
  obtain ⟨_, h | ⟨b, o, rfl, hb, L, hL, hR, _⟩⟩ := hr.parts
  · exact ⟨[], h.symm, fun n hn => by omega⟩
  · exact ⟨L, hL, fun n hn => ⟨b, o, rfl, hb, hR n (by omega)⟩⟩
theorem isM_or (w : List UInt8) : ((w = [40] ∨ w = [41] ∨ w = [44]) ∧ isM w = true) ∨ (w ≠ [40] ∧ w ≠ [41] ∧ w ≠ [44] ∧ isM w = false) := by
  unfold isM
  by_cases h1 : w = [40]
  · exact .inl ⟨.inl h1, by rw [h1]; decide⟩
  · by_cases h2 : w = [41]
    · exact .inl ⟨.inr (.inl h2), by rw [h2]; decide⟩
    · by_cases h3 : w = [44]
      · exact .inl ⟨.inr (.inr h3), by rw [h3]; decide⟩
      · exact .inr ⟨h1, h2, h3, by simp [h1, h2, h3]⟩
theorem bq_no {w : List UInt8} {c : UInt8} (h : w ≠ [c]) : ¬ (⟨w.toArray⟩ : ByteArray) = ⟨#[c]⟩ := fun e => h (by
  have := congrArg (fun b : ByteArray => b.data.toList) e
  simpa using this)
set_option maxRecDepth 100000 in
set_option maxHeartbeats 4000000 in
theorem gaps_short (s : ByteArray) (a : Option Addr) (len cap : Nat) (zs : List Int) (w : World) (hr : IsRow .i64 w a len cap zs) (T : TabW w) (hs : s.size ≤ 600) :
    Calls Tryz.prog 4 #[.string s, .slice a len cap] w fun e w' => e = .returned (.bool true) ∧ Below w.heap.size w w' := by
  have HT := Lib.hid T
  have HR := Lib.hid hr
  have HTk := Lib.hid (rtoks_any s (by omega) w)
  have h600 : ¬ 600 < s.size := by omega
  have i600 : ¬ (600 : Int) < (s.size : Int) := by omega
  have HS := Lib.hid hs
  have hlen : (len : Int) ≤ 9223372036854775807 := by have := hr.parts.1; omega
  obtain ⟨L, hLl, hLc⟩ := kG_row hr
  have HK := Lib.hid hLc
  have HL0 : Hid (∀ n, ¬ n < len → kG L n = 0) := Lib.hid (fun n hn => by
    unfold kG
    rw [List.getD_eq_getElem?_getD, List.getElem?_eq_none (by omega)]; rfl)
  have hX := parT_len s.data.toList
  have HPs : Hid (∀ w', Below w.heap.size w w' → Calls Tryz.prog 7 #[.string s] w' fun e w'' => ∃ v p, e = .returned (.tuple #[v, .int .i64 p, .int .i64 ((parT s.data.toList).2.2 : Nat)]) ∧ OwnN w'' w'.heap.size v (parT s.data.toList).1 ∧ Below w'.heap.size w' w'') := Lib.hid (fun w' hb => (tparse_any s (by omega) w' (T.keep hb)).mono (by
    rintro e w'' ⟨v, h1, h2⟩
    exact ⟨v, _, h1, h2⟩))
  have HQs : Hid (∀ w', Below w.heap.size w w' → Calls Tryz.prog 7 #[.string ⟨(uG L (toks 0 s.data.toList) (toks 0 s.data.toList).length).toArray⟩] w' fun e w'' => ∃ v p, e = .returned (.tuple #[v, .int .i64 p, .int .i64 ((parT s.data.toList).2.2 : Nat)]) ∧ OwnN w'' w'.heap.size v (parT s.data.toList).1 ∧ Below w'.heap.size w' w'') := Lib.hid (fun w' hb => by
    have hp := par_tx (tx_uG L s.data.toList)
    have hl := uG_bd L s.data.toList _ (Nat.le_refl _)
    rw [← hp.1, ← hp.2]
    refine (tparse_any ⟨(uG L (toks 0 s.data.toList) (toks 0 s.data.toList).length).toArray⟩ ?_ w' (T.keep hb)).mono ?_
    · rw [size_len]
      show (uG L (toks 0 s.data.toList) (toks 0 s.data.toList).length).length ≤ _
      rw [size_len] at hs
      omega
    · rintro e w'' ⟨v, h1, h2⟩
      exact ⟨v, _, h1, h2⟩)
  have HNd := Lib.hid (fun (w' : World) (v1 v2 : Value) => nodes_any (parT s.data.toList).1 hX v1 v2 w')
  have HAw := Lib.hid (fun (w' : World) (hb : Below w.heap.size w w') => awake6_any w' (T.keep hb))
  generalize (parT s.data.toList).1 = X at *
  generalize (parT s.data.toList).2.2 = E at *
  clear T hr hs h600 hLc hLl hX
  go_enter Tryz.func4, Tryz.ntmps4
  go_wp2_with fail
  refine (HTk.out).mono ?_
  rintro e w1 ⟨v, rfl, ho, hb1⟩
  obtain ⟨K, hK⟩ : ∃ K, K = toks 0 s.data.toList := ⟨_, rfl⟩
  rw [← hK] at ho HQs
  obtain ⟨a1, c1, rfl⟩ := ho.slice
  have HO := Lib.hid ho
  have HB1 := Lib.hid hb1
  have HKe := Lib.hid hK
  have HU : Hid (∀ n, n ≤ K.length → (uG L K n).length ≤ 2400) := Lib.hid (fun n hn => by
    have := uG_bd L s.data.toList n (by rw [← hK]; exact hn)
    rw [← hK] at this
    have h2 := HS.out
    simp at this
    omega)
  have HKl : Hid (K.length ≤ 600) := Lib.hid (by rw [hK]; have := toks_len s.data.toList 0; have h2 := HS.out; simp at this; omega)
  have HTl : Hid (∀ n, (tkG K n).length ≤ 600) := Lib.hid (fun n => by
    unfold tkG
    by_cases hn : n < K.length
    · rw [List.getD_eq_getElem?_getD, List.getElem?_eq_getElem hn]
      have := (tok_ne s.data.toList 0 K[n] (by rw [← hK]; exact List.getElem_mem _)).2.1
      have h2 := HS.out
      simp at this
      show K[n].2.length ≤ 600
      omega
    · rw [List.getD_eq_getElem?_getD, List.getElem?_eq_none (by omega)]; exact Nat.zero_le _)
  clear ho hb1 hK HTk
  go_wp2_with fail
  go_loopw [6, 7] (fun vu vi wx => ∃ n : Nat, n ≤ K.length ∧ vi = .int .i64 n ∧ vu = .string ⟨(uG L K n).toArray⟩ ∧ OwnK wx w.heap.size (.slice a1 K.length c1) K ∧ Below w.heap.size w wx) (fun _ vi _ => K.length - (RowKit.intOf vi).toNat)
  case atStart => exact ⟨0, Nat.zero_le _, rfl, rfl, HO.out, HB1.out⟩
  case round =>
    obtain ⟨n, hn, rfl, rfl, ho, hb⟩ := hrel
    have HOr := Lib.hid ho
    have HBr := Lib.hid hb
    by_cases hlt : n < K.length
    · have p1 : (n : Int) < (K.length : Int) := by omega
      have p0 : (0 : Int) ≤ (n : Int) := by omega
      obtain ⟨g, cap', hv, hcp, hcm, hgb, k0, _⟩ := ho.get hlt
      injection hv with hv1 hv2 hv3
      subst hv1 hv3
      have hcp' : (K.length : Int) ≤ (c1 : Int) := by omega
      have hUl := HU.out n hn
      have htl := HTl.out n
      have HUs := Lib.hid (uG_succ L K n)
      have HMk : Hid (mkG K n = (isM (tkG K n) || (decide (n + 1 < K.length) && isM (tkG K (n + 1))))) := Lib.hid rfl
      have HGp : Hid (gapG L K n = (if (kG L n).tmod 3 ≠ 0 ∨ mkG K n = false then [32] else []) ++ (if (kG L n).tmod 3 = 1 then [10, 32] else [])) := Lib.hid rfl
      have k0' : wr.cell? ⟨g, n * 2, none⟩ = some (.string ⟨(tkG K n).toArray⟩) := k0
      clear k0 ho hb
      generalize uG L K n = U at *
      have htk : Hid (∃ tk, tk = tkG K n) := Lib.hid ⟨_, rfl⟩
      generalize tkG K n = tk at *
      have l1 : ¬ 9223372036854775807 < U.length + tk.length := by omega
      go_upto_if 39 with fail
      rw [show (⟨U.toArray⟩ ++ ⟨tk.toArray⟩ : ByteArray) = ⟨(U ++ tk).toArray⟩ by simp [ByteArray.mk_append_mk]]
      go_cut [8] from 23 to 103 (fun v wx => v = .int .i64 (kG L n) ∧ wr = wx)
      case first =>
        by_cases q : n < len
        · obtain ⟨b, o, rfl, hbb, hc⟩ := HK.out n q
          have hc' : wr.cell? ⟨b, o + n, none⟩ = some (.int .i64 (kG L n)) := (World.cell?_of_block (HBr.out.block b hbb)).trans hc
          have q1 : (n : Int) < (len : Int) := by omega
          clear hc
          go_wp2_with fail
          go_meet
          exact ⟨rfl, rfl⟩
        · have q1 : ¬ (n : Int) < (len : Int) := by omega
          go_wp2_with fail
          go_meet
          exact ⟨by rw [HL0.out n q], rfl⟩
      case rest =>
        obtain ⟨rfl, hw⟩ := hcut
        subst hw
        go_upto_region 12 with fail
        go_cut [9] from 23 to 103 (fun v wx => v = .bool (isM tk) ∧ wr = wx)
        case first =>
          clear HMk HGp HUs hUl htl htk l1
          rcases isM_or tk with ⟨h | h | h, e⟩ | ⟨h1, h2, h3, e⟩
          · subst h
            go_wp2_with fail
            go_meet
            exact ⟨congrArg Value.bool e.symm, rfl⟩
          · subst h
            go_wp2_with fail
            go_meet
            exact ⟨congrArg Value.bool e.symm, rfl⟩
          · subst h
            go_wp2_with fail
            go_meet
            exact ⟨rfl, rfl⟩
          · have E := Lib.hid e
            have b1 := bq_no h1
            have b2 := bq_no h2
            have b3 := bq_no h3
            have b7 : (tk == [40]) = false := beq_false_of_ne h1
            have b8 : (tk == [41]) = false := beq_false_of_ne h2
            have b9 : (tk == [44]) = false := beq_false_of_ne h3
            clear h1 h2 h3 e
            go_wp2_with fail
            go_meet
            exact ⟨congrArg Value.bool E.out.symm, rfl⟩
        case rest =>
          obtain ⟨rfl, hw⟩ := hcut
          subst hw
          clear k0'
          go_upto_if 70 with fail
          go_cut [9] from 23 to 103 (fun v wx => v = .bool (mkG K n) ∧ wr = wx)
          case first =>
            by_cases q : n + 1 < K.length
            · obtain ⟨g2, cap2, hv, _, _, _, k2, _⟩ := HOr.out.get q
              injection hv with hv1 hv2 hv3
              injection hv1 with hv1
              injection hv1 with hv1 _ _
              subst hv1
              clear hv2 hv3
              have k2' : wr.cell? ⟨g, (n + 1) * 2, none⟩ = some (.string ⟨(tkG K (n + 1)).toArray⟩) := k2
              have q1 : (n : Int) + 1 < (K.length : Int) := by omega
              have q2 : (0 : Int) ≤ (n : Int) + 1 := by omega
              have HM2 : Hid (mkG K n = (isM tk || isM (tkG K (n + 1)))) := Lib.hid (by rw [HMk.out, decide_eq_true q, Bool.true_and])
              clear k2 HMk HGp HUs hUl htl htk l1 q
              generalize mkG K n = mk at *
              generalize isM tk = bm at *
              cases bm with
              | true =>
                go_wp2_with fail
                go_meet
                exact ⟨congrArg Value.bool (by rw [HM2.out, Bool.true_or]), rfl⟩
              | false =>
                rw [Bool.false_or] at HM2
                generalize tkG K (n + 1) = tn at *
                rcases isM_or tn with ⟨h | h | h, e⟩ | ⟨h1, h2, h3, e⟩
                · rw [e] at HM2
                  subst h
                  clear e
                  go_wp2_with fail
                  go_meet
                  exact ⟨congrArg Value.bool HM2.out.symm, rfl⟩
                · rw [e] at HM2
                  subst h
                  clear e
                  go_wp2_with fail
                  go_meet
                  exact ⟨congrArg Value.bool HM2.out.symm, rfl⟩
                · rw [e] at HM2
                  subst h
                  clear e
                  go_wp2_with fail
                  go_meet
                  exact ⟨congrArg Value.bool HM2.out.symm, rfl⟩
                · rw [e] at HM2
                  have b1 := bq_no h1
                  have b2 := bq_no h2
                  have b3 := bq_no h3
                  have b7 : (tn == [40]) = false := beq_false_of_ne h1
                  have b8 : (tn == [41]) = false := beq_false_of_ne h2
                  have b9 : (tn == [44]) = false := beq_false_of_ne h3
                  clear h1 h2 h3 e
                  go_wp2_with fail
                  go_meet
                  exact ⟨congrArg Value.bool HM2.out.symm, rfl⟩
            · have q1 : ¬ (n : Int) + 1 < (K.length : Int) := by omega
              have HM2 : Hid (mkG K n = isM tk) := Lib.hid (by rw [HMk.out, decide_eq_false q, Bool.false_and, Bool.or_false])
              clear HMk HGp HUs hUl htl htk l1 q
              go_wp2_with fail
              go_meet
              exact ⟨congrArg Value.bool HM2.out.symm, rfl⟩
          case rest =>
            obtain ⟨rfl, hw⟩ := hcut
            subst hw
            clear HMk
            generalize mkG K n = bm at *
            generalize hk : kG L n = kk at *
            have HG2 : Hid ((if kk.tmod 3 ≠ 0 ∨ bm = false then [32] else []) ++ (if kk.tmod 3 = 1 then [10, 32] else []) = gapG L K n) := Lib.hid HGp.out.symm
            clear HGp hk htk
            generalize gapG L K n = GG at *
            have HLt := Lib.hid hlt
            have hn6 : n ≤ 600 := by have := HKl.out; omega
            have l0 : U.length + tk.length ≤ 4000 := by omega
            have l2 : ¬ 9223372036854775807 < (U ++ tk).length + 1 := by rw [List.length_append]; omega
            have l3 : ¬ 9223372036854775807 < (U ++ tk).length + 2 := by rw [List.length_append]; omega
            have l4 : ¬ 9223372036854775807 < (U ++ tk ++ [32]).length + 2 := by rw [List.length_append, List.length_append, List.length_singleton]; omega
            have HUn := HUs
            clear HUs HTl HU HKl HPs HQs HNd HAw HKe HO HB1 HK HL0 hUl htl hcp hcp' hcm hgb l1 HR
            by_cases m0 : kk.tmod 3 = 0
            · have m1 : ¬ kk.tmod 3 = 1 := by omega
              cases bm with
              | true =>
                have HN : Hid (GG = []) := Lib.hid (by rw [← HG2.out, if_neg (by rw [m0]; decide), if_neg m1]; rfl)
                clear HG2
                go_wp2_with fail
                go_roundw
                case rel => exact ⟨n + 1, HLt.out, by go_num, by rw [HUn.out, HN.out, List.append_nil], HOr.out, HBr.out⟩
                case measure => have := HLt.out; simp [RowKit.intOf]; omega
              | false =>
                have HN : Hid (GG = [32]) := Lib.hid (by rw [← HG2.out, if_pos (.inr rfl), if_neg m1]; rfl)
                clear HG2
                go_wp2_with fail
                go_roundw
                case rel => exact ⟨n + 1, HLt.out, by go_num, by rw [HUn.out, HN.out]; simp [ByteArray.mk_append_mk], HOr.out, HBr.out⟩
                case measure => have := HLt.out; simp [RowKit.intOf]; omega
            · have m0' : (kk.tmod 3 == 0) = false := beq_false_of_ne m0
              by_cases m1 : kk.tmod 3 = 1
              · have HN : Hid (GG = [32, 10, 32]) := Lib.hid (by rw [← HG2.out, if_pos (.inl m0), if_pos m1]; rfl)
                clear HG2
                go_wp2_with fail
                go_roundw
                case rel => exact ⟨n + 1, HLt.out, by go_num, by rw [HUn.out, HN.out]; simp [ByteArray.mk_append_mk], HOr.out, HBr.out⟩
                case measure => have := HLt.out; simp [RowKit.intOf]; omega
              · have m1' : (kk.tmod 3 == 1) = false := beq_false_of_ne m1
                have HN : Hid (GG = [32]) := Lib.hid (by rw [← HG2.out, if_pos (.inl m0), if_neg m1]; rfl)
                clear HG2
                go_wp2_with fail
                go_roundw
                case rel => exact ⟨n + 1, HLt.out, by go_num, by rw [HUn.out, HN.out]; simp [ByteArray.mk_append_mk], HOr.out, HBr.out⟩
                case measure => have := HLt.out; simp [RowKit.intOf]; omega
    · have hne : n = K.length := by omega
      subst hne
      have p1 : ¬ (K.length : Int) < (K.length : Int) := by omega
      clear ho hb
      go_wp2_with fail
      refine (HPs.out _ HBr.out).mono ?_
      rintro e w2 ⟨v, p, rfl, hv, hb2⟩
      have HV := Lib.hid hv.sl
      obtain ⟨va, vc, rfl⟩ := hv.slice
      have HB2 := Lib.hid (onB HBr.out hb2)
      clear hv hb2
      go_wp2_with fail
      refine (HQs.out _ HB2.out).mono ?_
      rintro e w3 ⟨v', p', rfl, hv, hb3⟩
      have HV3 := Lib.hid (HV.out.keep hb3)
      have HW := Lib.hid hv.sl
      obtain ⟨va', vc', rfl⟩ := hv.slice
      have HB3 := Lib.hid (onB HB2.out hb3)
      clear hv hb3
      go_wp2_with fail
      refine (HNd.out _ _ _ HV3.out HW.out).mono ?_
      rintro e w4 ⟨rfl, hb4⟩
      have HB4 := Lib.hid (onB HB3.out hb4)
      clear hb4
      go_wp2_with fail
      refine (HAw.out _ HB4.out).mono ?_
      rintro e w5 ⟨rfl, hb5⟩
      have HB5 := Lib.hid (onB HB4.out hb5)
      clear hb5
      go_wp2_with fail
      go_ret
      exact ⟨rfl, HB5.out⟩

set_option maxRecDepth 100000 in
set_option maxHeartbeats 4000000 in
theorem gaps_walk (s : ByteArray) (a : Option Addr) (len cap : Nat) (zs : List Int) (w : World) (hr : IsRow .i64 w a len cap zs) (T : TabW w) :
    Calls Tryz.prog 4 #[.string s, .slice a len cap] w fun e w' => e = .returned (.bool true) ∧ Below w.heap.size w w' := by
  by_cases hs : s.size ≤ 600
  · exact gaps_short s a len cap zs w hr T hs
  · have HAw := Lib.hid (fun (w' : World) (hb : Below w.heap.size w w') => awake6_any w' (T.keep hb))
    have i6 : (600 : Int) < (s.size : Int) := by omega
    clear hs hr T
    go_enter Tryz.func4, Tryz.ntmps4
    go_wp2_with fail
    refine (HAw.out _ (Below.refl _ _)).mono ?_
    rintro e w1 ⟨rfl, hb1⟩
    go_wp2_with fail
    go_ret
    exact ⟨rfl, hb1⟩

end Go.Proofs.YtdmdgoeacafpiaaGreatDoor

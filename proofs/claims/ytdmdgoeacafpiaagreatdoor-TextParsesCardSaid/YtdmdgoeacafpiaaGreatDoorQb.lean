/-
  chattelref06: the reader's Term, of an or.
-/
import Derived.Test.YtdmdgoeacafpiaaGreatDoorQa
namespace Go.Proofs.YtdmdgoeacafpiaaGreatDoor
open Go.RowKit Go.Lib
set_option linter.unusedVariables false
set_option linter.unusedSimpArgs false

set_option maxHeartbeats 8000000 in
set_option maxRecDepth 100000 in
theorem rterm_or (d : Nat) (hd1 : 1 ≤ d) (hd : d ≤ 13) (IH : d ≤ 12 → TermC (d + 1)) (P : Nat → Prop) (B : Nat) (K : List Tk) (z n s : Nat) (D : List Nat) (w : World) (N : List Nd) (hT : TkOk K) (h : RdM w P B K z n 0 N) (hg : Gd (K.map Prod.snd) n ⟨N, (d : Int) - 1, s :: D⟩) (hs : s = 1 ∨ s = 2) (hq : n < K.length) (HK0 : Hid (opW (tkW K n) ≠ 0)) (HKs : Hid (mkT.getD (opW (tkW K n)) 0 = s)) (HDp : Hid (¬ (64 ≤ N.length ∨ 12 < d))) (HC : Hid (opW (tkW K n) = 16)) :
    Calls Tryz.prog 13 #[.pointer (some ⟨B, 0, none⟩), .string ⟨[sB s].toArray⟩, .int .i64 (d : Nat)] w fun en w' => en = .returned (.tuple #[]) ∧ ∃ n' e T, RdM w' P B K z n' e T ∧ KpP P w w' ∧ TermS (K.map Prod.snd) D ((d : Int) - 1) n' e T := by
  have hK := hT.1
  have c2 := h.cells.2.1
  have hWl : (K.map Prod.snd).length = K.length := List.length_map ..
  have hn : n ≤ 3000 := by have := hg.1; omega
  have HX := Lib.hid (rnext_any P B K z n 0 N (by omega) w h)
  have HP := Lib.hid h.lt
  obtain ⟨ht1, ht2⟩ := hT.2 n hq
  have hq' : n < (K.map Prod.snd).length := by omega
  have hWn := tkW_map K n hq'
  have hF := take_first hs ht1 N ((d : Int) - 1) D
  obtain ⟨x, y, hnod, hxy⟩ := nodW_form (tkW K n)
  have HPa : Hid (∀ w', Calls Tryz.prog 21 #[.string ⟨(tkW K n).toArray⟩] w' fun e w'' => (match ratW (tkW K n) with | some (n, d) => e = .returned (.tuple #[.agg #[.int .i64 n, .int .i64 d], .int .i64 0]) | none => e = .returned (.tuple #[.agg #[.int .i64 0, .int .i64 0], .int .i64 13])) ∧ Below w'.heap.size w' w'') := Lib.hid (fun w' => (rparse_any ⟨(tkW K n).toArray⟩ (by rw [size_len]; show (tkW K n).length ≤ _; omega) w').mono (fun e w'' he => parse_rat he))
  rw [if_pos hq] at HX
  have HG := Lib.hid hg
  have HF := Lib.hid hF
  have HWn := Lib.hid hWn
  have HN := Lib.hid hnod
  have HXY := Lib.hid hxy
  have HTk := Lib.hid hT
  clear hWn hF hnod hxy hg ht2 h hT hWl ht1
  go_enter Tryz.func13, Tryz.ntmps13
  go_wp2_with fail
  refine (HX.out).mono ?_
  rintro en w1 ⟨rfl, hm, hk⟩
  have HM := Lib.hid hm
  have HK := Lib.hid hk
  have c2 := hm.cells.2.1
  clear hm hk HX
  generalize tkW K n = tk at *
  go_wp2_with fail
  refine (HPa.out _).mono ?_
  rintro en w2 ⟨hen, hb2⟩
  obtain ⟨a1, a2, e1, rfl, he1⟩ : ∃ a1 a2 e1 : Int, en = .returned (.tuple #[.agg #[.int .i64 a1, .int .i64 a2], .int .i64 e1]) ∧ (e1 = 0 ∧ x = a1 ∧ y = a2 ∧ opJ tk 2 = 1 ∨ e1 = 13 ∧ x = 0 ∧ y = 0 ∧ opJ tk 2 = 0) := by
    have hxy := HXY.out
    cases hr : ratW tk with
    | none =>
      rw [hr] at hen hxy
      exact ⟨0, 0, 13, hen, .inr ⟨rfl, hxy⟩⟩
    | some p =>
      obtain ⟨p1, p2⟩ := p
      rw [hr] at hen hxy
      exact ⟨p1, p2, 0, hen, .inl ⟨rfl, hxy⟩⟩
  have HE1 := Lib.hid he1
  have hS0 := StR.start HM.out HK.out HP.out ⟨0, 0, 0, 0, 0⟩ 52
  have HS2 := Lib.hid ((hS0.below hb2).below (newB w2 (.cells #[.int .i64 a1, .int .i64 a2] 50)))
  have hvb : w1.heap.size < w2.heap.size := Nat.lt_of_lt_of_le (by rw [World.size_alloc]; exact Nat.lt_succ_self _) hb2.size
  have v0 : (w2.alloc (.cells #[.int .i64 a1, .int .i64 a2] 50)).cell? ⟨w2.heap.size, 0, none⟩ = some (.int .i64 a1) := by rw [World.cell?_alloc_at _ _ _ _ rfl]; rfl
  have v1 : (w2.alloc (.cells #[.int .i64 a1, .int .i64 a2] 50)).cell? ⟨w2.heap.size, 1, none⟩ = some (.int .i64 a2) := by rw [World.cell?_alloc_at _ _ _ _ rfl]; rfl
  clear he1 hen hS0 hb2 HXY HPa c2 HM HK
  generalize w1.heap.size = b at *
  go_upto_if 34 with fail
  generalize w2.alloc (.cells #[.int .i64 a1, .int .i64 a2] 50) = w3 at *
  generalize w2.heap.size = b2 at *
  go_cut [] (fun wx => StR w wx P B b K z (n + 1) 0 N ⟨(opJ tk 2 : Nat), 0, 0, x, y⟩)
  case first =>
    rcases HE1.out with ⟨h1, h2, h3, h4⟩ | ⟨h1, h2, h3, h4⟩
    · subst h1 h2 h3
      have hnd := HS2.out.nd
      have d0 := hnd.c0
      have d3 := hnd.c3
      have d4 := hnd.c4
      have f0 := hnd.fr 0
      have f3 := hnd.fr 3
      have f4 := hnd.fr 4
      have HH := Lib.hid h4
      dsimp only at d0 d3 d4
      clear hnd h4
      have hne : b ≠ b2 := by omega
      have v0' : (w3.setCell ⟨b, 0, none⟩ (.int .i64 1)).cell? ⟨b2, 0, none⟩ = some (.int .i64 x) := (cell_far (.inl hne)).trans v0
      have v1' : (w3.setCell ⟨b, 0, none⟩ (.int .i64 1)).cell? ⟨b2, 1, none⟩ = some (.int .i64 y) := (cell_far (.inl hne)).trans v1
      go_wp2_with fail
      go_meet
      rw [HH.out]
      exact ((HS2.out.setOp 1).setX _).setY _
    · subst h1 h2 h3
      have HH := Lib.hid h4
      clear h4
      go_wp2_with fail
      go_meet
      rw [HH.out]
      exact HS2.out
  case rest =>
    have HS3 := Lib.hid hcut
    clear hcut HS2 HE1 v0 v1 hvb c2
    go_wp2_with fail
    go_loopw [10] (fun vo wx => ∃ j : Nat, 2 ≤ j ∧ j ≤ 18 ∧ vo = .int .i64 (j : Nat) ∧ StR w wx P B b K z (n + 1) 0 N ⟨(opJ tk j : Nat), 0, 0, x, y⟩) (fun vo _ => 18 - (RowKit.intOf vo).toNat)
    case atStart => exact ⟨2, by omega, by omega, rfl, HS3.out⟩
    case round =>
      obtain ⟨j, hj2, hj, rfl, hst⟩ := hrel
      have HSr := Lib.hid hst
      clear hst HS3
      by_cases hlt : j < 18
      · have p1 : (j : Int) < 18 := by omega
        have HW := Lib.hid (fun w' => rword_any j hlt w')
        have HHit := Lib.hid (opJ_hit (w := tk) hj2)
        have HMiss := Lib.hid (opJ_miss (w := tk) (j := j))
        have HJ := Lib.hid hlt
        generalize wdN j = wd at *
        clear hlt
        go_wp2_with fail
        refine (HW.out _).mono ?_
        rintro en w4 ⟨rfl, hb4⟩
        have HS4 := Lib.hid (HSr.out.below hb4)
        have d0 := HS4.out.nd.c0
        have f0 := HS4.out.nd.fr 0
        dsimp only at d0
        clear hb4 HW
        by_cases hw : wd = tk
        · subst hw
          have HH := Lib.hid (HHit.out rfl)
          go_wp2_with fail
          go_roundw
          case rel => exact ⟨j + 1, by omega, HJ.out, by go_num, by rw [HH.out]; exact HS4.out.setOp _⟩
          case measure => have := HJ.out; simp [RowKit.intOf]; omega
        · have HH := Lib.hid (HMiss.out hw)
          have hw2 : (wd == tk) = false := beq_false_of_ne hw
          clear d0
          go_wp2_with fail
          go_roundw
          case rel => exact ⟨j + 1, by omega, HJ.out, by go_num, by rw [HH.out]; exact HS4.out⟩
          case measure => have := HJ.out; simp [RowKit.intOf]; omega
      · obtain rfl : j = 18 := by omega
        rw [opJ_end] at HSr
        have hk := opW_lt tk
        have HBad : Hid (∀ e', e' ≠ 0 → (takeM ⟨N, (d : Int) - 1, s :: D⟩ tk).1 = e' → Wr (K.map Prod.snd) n e') := Lib.hid (fun e' h1 h2 => by
          have := HG.out.bad hq' (by rw [HWn.out, h2]; exact h1)
          rw [HWn.out, h2] at this
          exact this)
        have HNx : Hid ((takeM ⟨N, (d : Int) - 1, s :: D⟩ tk).1 = 0 → Gd (K.map Prod.snd) (n + 1) (takeM ⟨N, (d : Int) - 1, s :: D⟩ tk).2) := Lib.hid (fun h2 => by
          have := HG.out.next hq' (by rw [HWn.out, h2])
          rw [HWn.out] at this
          exact this)
        rw [HF.out, HN.out] at HBad HNx
        clear HF HN HG HWn hlt hj hj2
        generalize opW tk = k at *
        have d0 := HSr.out.nd.c0
        have c2 := HSr.out.m.cells.2.1
        have f2 := HSr.out.m.cells.2.2.1 2
        have p1 : ¬ (18 : Int) < 18 := by omega
        dsimp only at d0
        have hk0 := HK0.out
        have hks := HKs.out
        have hdp := HDp.out
        have e0 : ¬ (k : Int) = 0 := by omega
        have e1 : ((k : Int) == 0) = false := beq_false_of_ne e0
        have HSo := Lib.hid (fun w' => rsort_any (k : Int) w')
        rw [sort_row hk hk0, hks] at HSo
        obtain ⟨vk0, vt0, hrk⟩ := HSr.out.m
        obtain ⟨av, cv, rfl⟩ := hrk.ht.slice
        have c3 := hrk.c3
        clear hrk
        generalize [sB s] = l1 at *
        have HF0 := Lib.hid (fld_begin hk (by
          have := HNx.out (by rw [if_neg (fun h => h.elim hk0 (fun q => q hks)), begM, if_neg (by dsimp only; omega)])
          rwa [if_neg (fun h => h.elim hk0 (fun q => q hks)), begM, if_neg (by dsimp only; omega)] at this))
        have h12 : d ≤ 12 := by omega
        have HIH := Lib.hid (IH h12)
        have i1 : ¬ (64 : Int) ≤ (N.length : Int) := by omega
        have i2 : ¬ (12 : Int) < (d : Int) := by omega
        have hNl : N.length < 64 := by omega
        have hWl : (K.map Prod.snd).length = K.length := List.length_map ..
        clear HBad HNx IH hdp hks HK0 HKs HDp
        go_wp2_with fail
        refine (HSo.out _).mono ?_
        rintro en w5 ⟨rfl, rfl⟩
        clear HSo
        go_upto_region 17 with fail
        clear c2 c3 i1 i2 f2 hk0 e0 e1
        have hc := HC.out
        have b2 : ((k : Int) == 2) = false := by rw [hc]; rfl
        have b16 : ((k : Int) == 16) = true := by rw [hc]; rfl
        have b17 : ((k : Int) == 17) = false := by rw [hc]; rfl
        have b10 : ((k : Int) == 10) = false := by rw [hc]; rfl
        have b14 : ((k : Int) == 14) = false := by rw [hc]; rfl
        have r0 := remF_key ⟨k, hk⟩
        dsimp only at r0
        rw [if_pos (by omega)] at r0
        have r1 := remF_name ⟨k, hk⟩
        dsimp only at r1
        rw [if_neg (by omega)] at r1
        have r2 := remF_day ⟨k, hk⟩
        dsimp only at r2
        rw [if_neg (by omega)] at r2
        have r3 := remF_unt ⟨k, hk⟩
        dsimp only at r3
        rw [if_neg (by omega)] at r3
        have HKy := Lib.hid (rkey_fld _ B K HTk.out z (n + 1) 0 k D ((d : Int) - 1) N _ wr HSr.out.m HF0.out r0)
        have HR := Lib.hid (And.intro r1 (And.intro r2 r3))
        clear r0 r1 r2 r3 hc HC
        go_wp2_with fail
        refine (HKy.out).mono ?_
        rintro en w6 ⟨v, n', e', rfl, hm, hk6, hf⟩
        have HS6 := Lib.hid (HSr.out.call hm hk6)
        have HF6 := Lib.hid hf
        have d0 := HS6.out.nd.c0
        have d1 := HS6.out.nd.c1
        have f1 := HS6.out.nd.fr 1
        dsimp only at d0 d1
        clear hm hk6 hf HKy
        have HS7 := Lib.hid (HS6.out.setA v)
        have HF := Lib.hid (((HF6.out.same HR.out.1).same HR.out.2.1).same HR.out.2.2)
        clear HS6 HF6 HR
        go_upto_region 19 with fail
        clear d0 d1 f1
        generalize w6.setCell ⟨b, 1, none⟩ (.int .i64 v) = w7 at *
        have HS4 : Hid (StR w w7 P B b K z n' e' N ⟨(k : Int), v, 0, x, y⟩) := HS7
        have HF4 : Hid (FldS (K.map Prod.snd) k D ((d : Int) - 1) N 4 n' e' ⟨(k : Int), v, 0, x, y⟩) := HF
        obtain ⟨vk1, vt1, hr1⟩ := HS4.out.m
        obtain ⟨av1, cv1, rfl⟩ := hr1.ht.slice
        have HR1 := Lib.hid hr1
        have c3 := hr1.c3
        have f3 := hr1.fr 3
        have hown := hr1.ht
        have hBlt := hr1.blt
        have hbt := Lib.hid hr1.bt
        clear hr1
        have d0 := HS4.out.nd.c0
        have d1 := HS4.out.nd.c1
        have d2 := HS4.out.nd.c2
        have d3 := HS4.out.nd.c3
        have d4 := HS4.out.nd.c4
        dsimp only at d0 d1 d2 d3 d4
        have HKd := Lib.hid (HF4.out.kids hk)
        have hn4 : n' ≤ 3001 := by have := HF4.out.len; omega
        clear HF4
        go_upto_region 33 with fail
        go_cut [] (fun wx => StR w wx P B b K z n' e' (N ++ [⟨(k : Int), v, 0, x, y⟩]) ⟨(k : Int), v, 0, x, y⟩)
        case first =>
          unfold OwnN at hown
          have nB : some B ≠ (Value.slice av1 N.length cv1).ownBlock := fun e => (hbt.out B e.symm).1 rfl
          have h63 : N.length + 1 ≤ maxLen := by unfold maxLen; omega
          have hby : (N.length + 1) * 40 ≤ 140737488355328 := by omega
          have hbs : 0 ≤ (w7.drew.alloc (.cells #[.int .i64 (k : Int), .int .i64 v, .int .i64 0, .int .i64 x, .int .i64 y] 52)).heap.size := Nat.zero_le _
          obtain ⟨i0, hi0, hz0, hz1, hz2⟩ := info_parts infoND
          have hn1 : Below w7.heap.size w7 (w7.alloc (.cells #[.int .i64 (k : Int), .int .i64 v, .int .i64 0, .int .i64 x, .int .i64 y] 52)).drew := (newB w7 _).drew
          have f1a := keepT (newB w7 (.cells #[.int .i64 (k : Int), .int .i64 v, .int .i64 0, .int .i64 x, .int .i64 y] 52)) c3
          have hf1 : (w7.alloc (.cells #[.int .i64 (k : Int), .int .i64 v, .int .i64 0, .int .i64 x, .int .i64 y] 52)).drew.frozen? ⟨B, 3, none⟩ = false := (hn1.frozen (p := ⟨B, 3, none⟩) hBlt).trans f3
          go_region_law
            ((refine step_append_lies _ (by rfl) _ _ _ (by rfl) 0 52 i0 _ 5 40 Tryz.underlying23 hi0 hz0 hz1 hz2 rfl (by omega) (.slice av1 N.length cv1) N.length (ndR N) (by rfl) (World.ownsRow.alloc (World.ownsRow.drew hown) _) ⟨w7.heap.size, 0, none⟩ 1 1 [.int .i64 (k : Int), .int .i64 v, .int .i64 0, .int .i64 x, .int .i64 y] (by rfl) (by rfl) (World.news_of_block (cs := #[.int .i64 (k : Int), .int .i64 v, .int .i64 0, .int .i64 x, .int .i64 y]) (t := 52) (fr := (0, 0)) (heap_alloc_new w7.drew _)) (by simp [Value.oneCell']) (by omega) h63 hby hbs (w7.heap.size + 1) (by simp) ?_
              intro g cap2 w1 hown1 hgrow hat hlt2
              have s1 : w1.cell? ⟨B, 3, none⟩ = some (.slice av1 N.length cv1) := by rw [hgrow.cell_far ⟨B, 3, none⟩ (by simp; omega) nB]; exact keepT hn1 c3
              have e2 : w1.frozen? ⟨B, 3, none⟩ = false := by rw [hgrow.frozen_far ⟨B, 3, none⟩ (by simp; omega) nB]; exact hf1))
          all_goals
            have hnw : OwnN w1 0 (.slice (some ⟨g, 0, none⟩) (N.length + 1) cap2) (N ++ [⟨(k : Int), v, 0, x, y⟩]) := by
              unfold OwnN
              rw [show (N ++ [(⟨(k : Int), v, 0, x, y⟩ : Nd)]).length = N.length + 1 by simp, ndR_app, show ndR [(⟨(k : Int), v, 0, x, y⟩ : Nd)] = ndL ⟨(k : Int), v, 0, x, y⟩ by simp [ndR]]
              exact hown1
            have hpn := RdK.pushT (HR1.out.keep hn1) hgrow hnw (by
              rcases hat with e | e
              · exact .inl e
              · right
                rw [e]
                show (w7.alloc _).heap.size ≤ _
                simp)
            have HQ := Lib.hid (HS4.out.call hpn.1 ((KpP.of hn1 HS4.out.m.lt).trans hpn.2))
            clear hpn hnw hown1 hgrow hat hlt2 s1 e2 f1a hf1
            go_wp2_with fail
            go_meet
            exact HQ.out
        case rest =>
          have HS5 := Lib.hid hcut
          clear hcut HS4 HR1 c3 f3 hown hBlt hbt d0 d1 d2 d3 d4
          generalize wc = wE at *
          have d0 := HS5.out.nd.c0
          dsimp only at d0
          have HKi := Lib.hid (fun w' => rkids_any (k : Int) w')
          rw [kids_row hk] at HKi
          have HRM := Lib.hid HS5.out.out
          have HKP := Lib.hid HS5.out.kp
          obtain ⟨ks, hks⟩ : ∃ ks, ks = kdT.getD k [] := ⟨_, rfl⟩
          have hkl : ks.length ≤ 4 := by rw [hks]; exact cn_all k hk
          have hka : ∀ i, i < ks.length → (⟨(ks.map sB).toArray⟩ : ByteArray).extract i (i + 1) = ⟨[sB (ks.getD i 0)].toArray⟩ ∧ (ks.getD i 0 = 1 ∨ ks.getD i 0 = 2) := fun i hi => by
            have := kid_at ⟨k, hk⟩ ⟨i, by omega⟩ (by rw [← hks]; exact hi)
            dsimp only at this
            rwa [← hks] at this
          rw [← hks] at HKi HKd
          obtain ⟨kb, hkb⟩ : ∃ kb : ByteArray, kb = ⟨(ks.map sB).toArray⟩ := ⟨_, rfl⟩
          have hkz : kb.size = ks.length := by rw [hkb]; show (ks.map sB).toArray.size = _; simp
          rw [← hkb] at HKi hka
          have HKA := Lib.hid hka
          have HZ := Lib.hid hkz
          clear hka hkb hks HS5 hkz
          go_wp2_with fail
          refine (HKi.out _).mono ?_
          rintro en w6 ⟨rfl, hb6⟩
          have HM6 := Lib.hid (HRM.out.keep hb6)
          have HP6 := Lib.hid (HKP.out.trans (KpP.of hb6 HRM.out.lt))
          clear hb6 HKi HRM HKP d0
          go_wp2_with fail
          go_loopw [14] (fun vi wx => ∃ (i n' e : Nat) (T : List Nd), i ≤ ks.length ∧ vi = .int .i64 (i : Nat) ∧ RdM wx P B K z n' e T ∧ KpP P w wx ∧ KidS (K.map Prod.snd) ks D ((d : Int) - 1) i n' e T) (fun vi _ => ks.length - (RowKit.intOf vi).toNat)
          case atStart => exact ⟨0, n', e', _, Nat.zero_le _, rfl, HM6.out, HP6.out, HKd.out⟩
          case round =>
            obtain ⟨i, n5, e5, T5, hi, rfl, hm, hk5, hkd⟩ := hrel
            have HM := Lib.hid hm
            have HP := Lib.hid hk5
            have HD := Lib.hid hkd
            have hn5 : n5 ≤ 3001 := by have := TermS.len hkd; omega
            clear hm hk5 hkd HM6 HP6 HKd
            by_cases hlt : i < ks.length
            · have p0 : (0 : Int) ≤ (i : Int) := by omega
              have p1 : (i : Int) < (kb.size : Int) := by have := HZ.out; omega
              obtain ⟨s5, hs5⟩ : ∃ s5, s5 = ks[i] := ⟨_, rfl⟩
              have hgd : ks.getD i 0 = s5 := by rw [hs5, List.getD_eq_getElem?_getD, List.getElem?_eq_getElem hlt]; rfl
              have hx := HKA.out i hlt
              rw [hgd] at hx
              have HX1 := Lib.hid hx.1
              have HOp : Hid (e5 = 0 → TermS (K.map Prod.snd) (s5 :: (bhK (ks.drop (i + 1)) 4 ++ D)) ((d : Int) - 1 + 1) (n5 + 1) (if (K.map Prod.snd).getD n5 [] = [if i = 0 then 40 else 44] then 0 else 13) T5) := Lib.hid (by
                intro he
                subst he
                rw [hs5]
                exact KidS.open_ hlt HD.out)
              have HBd : Hid (e5 ≠ 0 → TermS (K.map Prod.snd) (s5 :: (bhK (ks.drop (i + 1)) 4 ++ D)) ((d : Int) - 1 + 1) n5 e5 T5) := Lib.hid (fun he => KidS.bad HD.out he)
              have HTr := Lib.hid (fun w' n' e' T' h ht => rterm_trm HIH.out P B K HTk.out z n' e' s5 hx.2 (bhK (ks.drop (i + 1)) 4 ++ D) T' w' h ht)
              have HLt := Lib.hid hlt
              clear hgd hx hs5 hlt
              go_upto_if 151 with fail
              go_cut [] from 144 to 164 (fun wx => ∃ n' e', RdM wx P B K z n' e' T5 ∧ KpP P w wx ∧ TermS (K.map Prod.snd) (s5 :: (bhK (ks.drop (i + 1)) 4 ++ D)) ((d : Int) - 1 + 1) n' e' T5)
              case first =>
                by_cases i0 : i = 0
                · subst i0
                  have HMk := Lib.hid (rmark_trm P B K z n5 e5 T5 40 (by omega) wr HM.out HOp.out HBd.out)
                  go_wp2_with fail
                  refine (HMk.out).mono ?_
                  rintro en w7 ⟨rfl, n', e', h1, h2, h3⟩
                  have H1 := Lib.hid h1
                  have H2 := Lib.hid (HP.out.trans h2)
                  have H3 := Lib.hid h3
                  clear h1 h2 h3 HMk
                  go_wp2_with fail
                  go_meet
                  exact ⟨n', e', H1.out, H2.out, H3.out⟩
                · rw [if_neg i0] at HOp
                  have b0 : ((i : Int) == 0) = false := beq_false_of_ne (by omega)
                  have HMk := Lib.hid (rmark_trm P B K z n5 e5 T5 44 (by omega) wr HM.out HOp.out HBd.out)
                  clear i0
                  go_wp2_with fail
                  refine (HMk.out).mono ?_
                  rintro en w7 ⟨rfl, n', e', h1, h2, h3⟩
                  have H1 := Lib.hid h1
                  have H2 := Lib.hid (HP.out.trans h2)
                  have H3 := Lib.hid h3
                  clear h1 h2 h3 HMk
                  go_wp2_with fail
                  go_meet
                  exact ⟨n', e', H1.out, H2.out, H3.out⟩
              case rest =>
                obtain ⟨n6, e6, h1, h2, h3⟩ := hcut
                have HTr2 := Lib.hid (HTr.out _ n6 e6 T5 h1 h3)
                have H2 := Lib.hid h2
                clear h1 h2 h3 HTr HOp HBd HD HM HP
                generalize wc = wF at *
                have q0 : (i : Int) ≤ (i : Int) + 1 := by omega
                have q1 : (i : Int) + 1 ≤ (kb.size : Int) := by omega
                have q2 : ((i : Int) + 1).toNat = i + 1 := by omega
                go_wp2_with fail
                rw [HX1.out]
                refine (HTr2.out).mono ?_
                rintro en w7 ⟨rfl, n', e', T', h1, h2, h3⟩
                have H1 := Lib.hid h1
                have H3 := Lib.hid (H2.out.trans h2)
                have H4 := Lib.hid (KidS.next (i := i) h3)
                clear h1 h2 h3 HTr2 H2
                go_wp2_with fail
                go_roundw
                case rel => exact ⟨i + 1, n', e', T', HLt.out, by go_num, H1.out, H3.out, H4.out⟩
                case measure => have := HLt.out; simp [RowKit.intOf]; omega
            · have hie : i = ks.length := by omega
              subst hie
              have p1 : ¬ (ks.length : Int) < (kb.size : Int) := by have := HZ.out; omega
              by_cases hz : ks.length = 0
              · have p2 : ¬ 0 < (kb.size : Int) := by have := HZ.out; omega
                have HE : Hid (TermS (K.map Prod.snd) D ((d : Int) - 1) n5 e5 T5) := Lib.hid (by
                  have hk0 : ks = [] := List.length_eq_zero_iff.1 hz
                  have := HD.out
                  subst hk0
                  exact this.noKids rfl)
                clear hlt hz
                go_wp2_with fail
                go_end0
                exact ⟨rfl, n5, e5, T5, HM.out, HP.out, HE.out⟩
              · have p2 : 0 < (kb.size : Int) := by have := HZ.out; omega
                have HMk := Lib.hid (rmark_trm P B K z n5 e5 T5 41 (by omega) wr HM.out (D := D) (o := (d : Int) - 1) (fun he => by have := HD.out; rw [he] at this; exact KidS.close this hz) (fun he => KidS.bad HD.out he))
                clear hlt hz
                go_wp2_with fail
                refine (HMk.out).mono ?_
                rintro en w7 ⟨rfl, n', e', h1, h2, h3⟩
                have H1 := Lib.hid h1
                have H2 := Lib.hid (HP.out.trans h2)
                have H3 := Lib.hid h3
                clear h1 h2 h3 HMk
                go_wp2_with fail
                go_end0
                exact ⟨rfl, n', e', T5, H1.out, H2.out, H3.out⟩

end Go.Proofs.YtdmdgoeacafpiaaGreatDoor

namespace Go.Proofs.YtdmdgoeacafpiaaGreatDoor
open Go.RowKit Go.Lib
set_option linter.unusedVariables false
set_option linter.unusedSimpArgs false

set_option maxHeartbeats 8000000 in
set_option maxRecDepth 100000 in
theorem rterm_one (d : Nat) (hd1 : 1 ≤ d) (hd : d ≤ 13) (IH : d ≤ 12 → TermC (d + 1)) (P : Nat → Prop) (B : Nat) (K : List Tk) (z n s : Nat) (D : List Nat) (w : World) (N : List Nd) (hT : TkOk K) (h : RdM w P B K z n 0 N) (hg : Gd (K.map Prod.snd) n ⟨N, (d : Int) - 1, s :: D⟩) (hs : s = 1 ∨ s = 2) (hq : n < K.length) (HK0 : Hid (opW (tkW K n) ≠ 0)) (HKs : Hid (mkT.getD (opW (tkW K n)) 0 = s)) (HDp : Hid (¬ (64 ≤ N.length ∨ 12 < d))) (HC : Hid (opW (tkW K n) = 10)) :
    Calls Tryz.prog 13 #[.pointer (some ⟨B, 0, none⟩), .string ⟨[sB s].toArray⟩, .int .i64 (d : Nat)] w fun en w' => en = .returned (.tuple #[]) ∧ ∃ n' e T, RdM w' P B K z n' e T ∧ KpP P w w' ∧ TermS (K.map Prod.snd) D ((d : Int) - 1) n' e T := by
  have hK := hT.1
  have c2 := h.cells.2.1
  have hWl : (K.map Prod.snd).length = K.length := List.length_map ..
  have hn : n ≤ 3000 := by have := hg.1; omega
  have HX := Lib.hid (rnext_any P B K z n 0 N (by omega) w h)
  have HP := Lib.hid h.lt
  obtain ⟨ht1, ht2⟩ := hT.2 n hq
  have hq' : n < (K.map Prod.snd).length := by omega
  have hWn := tkW_map K n hq'
  have hF := take_first hs ht1 N ((d : Int) - 1) D
  obtain ⟨x, y, hnod, hxy⟩ := nodW_form (tkW K n)
  have HPa : Hid (∀ w', Calls Tryz.prog 21 #[.string ⟨(tkW K n).toArray⟩] w' fun e w'' => (match ratW (tkW K n) with | some (n, d) => e = .returned (.tuple #[.agg #[.int .i64 n, .int .i64 d], .int .i64 0]) | none => e = .returned (.tuple #[.agg #[.int .i64 0, .int .i64 0], .int .i64 13])) ∧ Below w'.heap.size w' w'') := Lib.hid (fun w' => (rparse_any ⟨(tkW K n).toArray⟩ (by rw [size_len]; show (tkW K n).length ≤ _; omega) w').mono (fun e w'' he => parse_rat he))
  rw [if_pos hq] at HX
  have HG := Lib.hid hg
  have HF := Lib.hid hF
  have HWn := Lib.hid hWn
  have HN := Lib.hid hnod
  have HXY := Lib.hid hxy
  have HTk := Lib.hid hT
  clear hWn hF hnod hxy hg ht2 h hT hWl ht1
  go_enter Tryz.func13, Tryz.ntmps13
  go_wp2_with fail
  refine (HX.out).mono ?_
  rintro en w1 ⟨rfl, hm, hk⟩
  have HM := Lib.hid hm
  have HK := Lib.hid hk
  have c2 := hm.cells.2.1
  clear hm hk HX
  generalize tkW K n = tk at *
  go_wp2_with fail
  refine (HPa.out _).mono ?_
  rintro en w2 ⟨hen, hb2⟩
  obtain ⟨a1, a2, e1, rfl, he1⟩ : ∃ a1 a2 e1 : Int, en = .returned (.tuple #[.agg #[.int .i64 a1, .int .i64 a2], .int .i64 e1]) ∧ (e1 = 0 ∧ x = a1 ∧ y = a2 ∧ opJ tk 2 = 1 ∨ e1 = 13 ∧ x = 0 ∧ y = 0 ∧ opJ tk 2 = 0) := by
    have hxy := HXY.out
    cases hr : ratW tk with
    | none =>
      rw [hr] at hen hxy
      exact ⟨0, 0, 13, hen, .inr ⟨rfl, hxy⟩⟩
    | some p =>
      obtain ⟨p1, p2⟩ := p
      rw [hr] at hen hxy
      exact ⟨p1, p2, 0, hen, .inl ⟨rfl, hxy⟩⟩
  have HE1 := Lib.hid he1
  have hS0 := StR.start HM.out HK.out HP.out ⟨0, 0, 0, 0, 0⟩ 52
  have HS2 := Lib.hid ((hS0.below hb2).below (newB w2 (.cells #[.int .i64 a1, .int .i64 a2] 50)))
  have hvb : w1.heap.size < w2.heap.size := Nat.lt_of_lt_of_le (by rw [World.size_alloc]; exact Nat.lt_succ_self _) hb2.size
  have v0 : (w2.alloc (.cells #[.int .i64 a1, .int .i64 a2] 50)).cell? ⟨w2.heap.size, 0, none⟩ = some (.int .i64 a1) := by rw [World.cell?_alloc_at _ _ _ _ rfl]; rfl
  have v1 : (w2.alloc (.cells #[.int .i64 a1, .int .i64 a2] 50)).cell? ⟨w2.heap.size, 1, none⟩ = some (.int .i64 a2) := by rw [World.cell?_alloc_at _ _ _ _ rfl]; rfl
  clear he1 hen hS0 hb2 HXY HPa c2 HM HK
  generalize w1.heap.size = b at *
  go_upto_if 34 with fail
  generalize w2.alloc (.cells #[.int .i64 a1, .int .i64 a2] 50) = w3 at *
  generalize w2.heap.size = b2 at *
  go_cut [] (fun wx => StR w wx P B b K z (n + 1) 0 N ⟨(opJ tk 2 : Nat), 0, 0, x, y⟩)
  case first =>
    rcases HE1.out with ⟨h1, h2, h3, h4⟩ | ⟨h1, h2, h3, h4⟩
    · subst h1 h2 h3
      have hnd := HS2.out.nd
      have d0 := hnd.c0
      have d3 := hnd.c3
      have d4 := hnd.c4
      have f0 := hnd.fr 0
      have f3 := hnd.fr 3
      have f4 := hnd.fr 4
      have HH := Lib.hid h4
      dsimp only at d0 d3 d4
      clear hnd h4
      have hne : b ≠ b2 := by omega
      have v0' : (w3.setCell ⟨b, 0, none⟩ (.int .i64 1)).cell? ⟨b2, 0, none⟩ = some (.int .i64 x) := (cell_far (.inl hne)).trans v0
      have v1' : (w3.setCell ⟨b, 0, none⟩ (.int .i64 1)).cell? ⟨b2, 1, none⟩ = some (.int .i64 y) := (cell_far (.inl hne)).trans v1
      go_wp2_with fail
      go_meet
      rw [HH.out]
      exact ((HS2.out.setOp 1).setX _).setY _
    · subst h1 h2 h3
      have HH := Lib.hid h4
      clear h4
      go_wp2_with fail
      go_meet
      rw [HH.out]
      exact HS2.out
  case rest =>
    have HS3 := Lib.hid hcut
    clear hcut HS2 HE1 v0 v1 hvb c2
    go_wp2_with fail
    go_loopw [10] (fun vo wx => ∃ j : Nat, 2 ≤ j ∧ j ≤ 18 ∧ vo = .int .i64 (j : Nat) ∧ StR w wx P B b K z (n + 1) 0 N ⟨(opJ tk j : Nat), 0, 0, x, y⟩) (fun vo _ => 18 - (RowKit.intOf vo).toNat)
    case atStart => exact ⟨2, by omega, by omega, rfl, HS3.out⟩
    case round =>
      obtain ⟨j, hj2, hj, rfl, hst⟩ := hrel
      have HSr := Lib.hid hst
      clear hst HS3
      by_cases hlt : j < 18
      · have p1 : (j : Int) < 18 := by omega
        have HW := Lib.hid (fun w' => rword_any j hlt w')
        have HHit := Lib.hid (opJ_hit (w := tk) hj2)
        have HMiss := Lib.hid (opJ_miss (w := tk) (j := j))
        have HJ := Lib.hid hlt
        generalize wdN j = wd at *
        clear hlt
        go_wp2_with fail
        refine (HW.out _).mono ?_
        rintro en w4 ⟨rfl, hb4⟩
        have HS4 := Lib.hid (HSr.out.below hb4)
        have d0 := HS4.out.nd.c0
        have f0 := HS4.out.nd.fr 0
        dsimp only at d0
        clear hb4 HW
        by_cases hw : wd = tk
        · subst hw
          have HH := Lib.hid (HHit.out rfl)
          go_wp2_with fail
          go_roundw
          case rel => exact ⟨j + 1, by omega, HJ.out, by go_num, by rw [HH.out]; exact HS4.out.setOp _⟩
          case measure => have := HJ.out; simp [RowKit.intOf]; omega
        · have HH := Lib.hid (HMiss.out hw)
          have hw2 : (wd == tk) = false := beq_false_of_ne hw
          clear d0
          go_wp2_with fail
          go_roundw
          case rel => exact ⟨j + 1, by omega, HJ.out, by go_num, by rw [HH.out]; exact HS4.out⟩
          case measure => have := HJ.out; simp [RowKit.intOf]; omega
      · obtain rfl : j = 18 := by omega
        rw [opJ_end] at HSr
        have hk := opW_lt tk
        have HBad : Hid (∀ e', e' ≠ 0 → (takeM ⟨N, (d : Int) - 1, s :: D⟩ tk).1 = e' → Wr (K.map Prod.snd) n e') := Lib.hid (fun e' h1 h2 => by
          have := HG.out.bad hq' (by rw [HWn.out, h2]; exact h1)
          rw [HWn.out, h2] at this
          exact this)
        have HNx : Hid ((takeM ⟨N, (d : Int) - 1, s :: D⟩ tk).1 = 0 → Gd (K.map Prod.snd) (n + 1) (takeM ⟨N, (d : Int) - 1, s :: D⟩ tk).2) := Lib.hid (fun h2 => by
          have := HG.out.next hq' (by rw [HWn.out, h2])
          rw [HWn.out] at this
          exact this)
        rw [HF.out, HN.out] at HBad HNx
        clear HF HN HG HWn hlt hj hj2
        generalize opW tk = k at *
        have d0 := HSr.out.nd.c0
        have c2 := HSr.out.m.cells.2.1
        have f2 := HSr.out.m.cells.2.2.1 2
        have p1 : ¬ (18 : Int) < 18 := by omega
        dsimp only at d0
        have hk0 := HK0.out
        have hks := HKs.out
        have hdp := HDp.out
        have e0 : ¬ (k : Int) = 0 := by omega
        have e1 : ((k : Int) == 0) = false := beq_false_of_ne e0
        have HSo := Lib.hid (fun w' => rsort_any (k : Int) w')
        rw [sort_row hk hk0, hks] at HSo
        obtain ⟨vk0, vt0, hrk⟩ := HSr.out.m
        obtain ⟨av, cv, rfl⟩ := hrk.ht.slice
        have c3 := hrk.c3
        clear hrk
        generalize [sB s] = l1 at *
        have HF0 := Lib.hid (fld_begin hk (by
          have := HNx.out (by rw [if_neg (fun h => h.elim hk0 (fun q => q hks)), begM, if_neg (by dsimp only; omega)])
          rwa [if_neg (fun h => h.elim hk0 (fun q => q hks)), begM, if_neg (by dsimp only; omega)] at this))
        have h12 : d ≤ 12 := by omega
        have HIH := Lib.hid (IH h12)
        have i1 : ¬ (64 : Int) ≤ (N.length : Int) := by omega
        have i2 : ¬ (12 : Int) < (d : Int) := by omega
        have hNl : N.length < 64 := by omega
        have hWl : (K.map Prod.snd).length = K.length := List.length_map ..
        clear HBad HNx IH hdp hks HK0 HKs HDp
        go_wp2_with fail
        refine (HSo.out _).mono ?_
        rintro en w5 ⟨rfl, rfl⟩
        clear HSo
        go_upto_region 17 with fail
        clear c2 c3 i1 i2 f2 hk0 e0 e1
        have hc := HC.out
        have b2 : ((k : Int) == 2) = false := by rw [hc]; rfl
        have b16 : ((k : Int) == 16) = false := by rw [hc]; rfl
        have b17 : ((k : Int) == 17) = false := by rw [hc]; rfl
        have b10 : ((k : Int) == 10) = true := by rw [hc]; rfl
        have b14 : ((k : Int) == 14) = false := by rw [hc]; rfl
        have r0 := remF_key ⟨k, hk⟩
        dsimp only at r0
        rw [if_neg (by omega)] at r0
        have r1 := remF_name ⟨k, hk⟩
        dsimp only at r1
        rw [if_pos (by omega)] at r1
        have r2 := remF_day ⟨k, hk⟩
        dsimp only at r2
        rw [if_neg (by omega)] at r2
        have r3 := remF_unt ⟨k, hk⟩
        dsimp only at r3
        rw [if_neg (by omega)] at r3
        have c2 := HSr.out.m.cells.2.1
        have HNm := Lib.hid (fun v e' hv => name_fld (HF0.out.same r0) r1 v e' hv)
        have HX := Lib.hid (rnext_any _ B K z (n + 1) 0 N (by omega) wr HSr.out.m)
        have HR := Lib.hid (And.intro r2 r3)
        clear r0 r1 r2 r3 hc HC
        go_wp2_with fail
        refine (HX.out).mono ?_
        rintro en w6 ⟨rfl, hm, hk6⟩
        have HS6 := Lib.hid (HSr.out.call hm hk6)
        have d1 := HS6.out.nd.c1
        have f1 := HS6.out.nd.fr 1
        dsimp only at d1
        clear hm hk6 HX
        generalize tkW K (n + 1) = tk1 at *
        generalize hE6 : (if n + 1 < K.length then 0 else 13) = E6 at *
        have HE6 := Lib.hid hE6
        clear hE6
        go_wp2_with fail
        go_loopw [12] (fun vo wx => ∃ i : Nat, i ≤ 8 ∧ vo = .int .i64 (i : Nat) ∧ StR w wx P B b K z (n + 1 + 1) E6 N ⟨(k : Int), nmA tk1 i, 0, x, y⟩) (fun vo _ => 8 - (RowKit.intOf vo).toNat)
        case atStart => exact ⟨0, by omega, rfl, HS6.out.setA (-1)⟩
        case round =>
          obtain ⟨i, hi, rfl, hst⟩ := hrel
          have HSr2 := Lib.hid hst
          clear hst HS6
          by_cases hlt : i < 8
          · have p1 : (i : Int) < 8 := by omega
            have HW := Lib.hid (fun w' => rname_any i hlt w')
            have HHit := Lib.hid (nmA_hit (l := tk1) hlt)
            have HMiss := Lib.hid (nmA_miss (l := tk1) (i := i))
            have HJ := Lib.hid hlt
            generalize curN i = cn at *
            clear hlt
            go_wp2_with fail
            refine (HW.out _).mono ?_
            rintro en w4 ⟨rfl, hb4⟩
            have HS4 := Lib.hid (HSr2.out.below hb4)
            have d1 := HS4.out.nd.c1
            have f1 := HS4.out.nd.fr 1
            dsimp only at d1
            clear hb4 HW
            by_cases hw : cn = tk1
            · subst hw
              have HH := Lib.hid (HHit.out rfl)
              go_wp2_with fail
              go_roundw
              case rel => exact ⟨i + 1, HJ.out, by go_num, by rw [HH.out]; exact HS4.out.setA _⟩
              case measure => have := HJ.out; simp [RowKit.intOf]; omega
            · have HH := Lib.hid (HMiss.out hw)
              have hw2 : (cn == tk1) = false := beq_false_of_ne hw
              clear d1
              go_wp2_with fail
              go_roundw
              case rel => exact ⟨i + 1, HJ.out, by go_num, by rw [HH.out]; exact HS4.out⟩
              case measure => have := HJ.out; simp [RowKit.intOf]; omega
          · obtain rfl : i = 8 := by omega
            have p1 : ¬ (8 : Int) < 8 := by omega
            have d1 := HSr2.out.nd.c1
            have f2 := HSr2.out.m.cells.2.2.1 2
            have C2 := HSr2.out.m.cells.2.1
            dsimp only at d1
            clear hlt hi
            obtain ⟨A8, hA8⟩ : ∃ A8, A8 = nmA tk1 8 := ⟨_, rfl⟩
            rw [← hA8] at d1 HSr2
            have HA8 := Lib.hid hA8
            clear hA8
            go_upto_if 115 with fail
            go_cut [] (fun wx => ∃ (n' e : Nat) (va : Int), StR w wx P B b K z n' e N ⟨(k : Int), va, 0, x, y⟩ ∧ FldS (K.map Prod.snd) k D ((d : Int) - 1) N 2 n' e ⟨(k : Int), va, 0, x, y⟩)
            case first =>
              cases hf : findK tk1 8 with
              | none =>
                have hA : nmA tk1 8 = -1 := by unfold nmA; rw [hf]
                have hA2 := HA8.out.trans hA
                subst hA2
                have HFd := Lib.hid (HNm.out (-1) 13 (by rw [hf]))
                clear hf hA
                go_wp2_with fail
                go_meet
                exact ⟨n + 1 + 1, 13, -1, HSr2.out.setE 13 13 rfl, HFd.out⟩
              | some j =>
                have hA : nmA tk1 8 = (j : Int) := by unfold nmA; rw [hf]
                have hA2 := HA8.out.trans hA
                subst hA2
                have HFd := Lib.hid (HNm.out (j : Int) E6 (by rw [hf]; exact ⟨rfl, rfl⟩))
                have j0 : ¬ (j : Int) < 0 := by omega
                clear hf hA
                go_wp2_with fail
                go_meet
                exact ⟨n + 1 + 1, E6, j, HSr2.out, HFd.out⟩
            case rest =>
              obtain ⟨n2, e2, va2, hs2, hf2⟩ := hcut
              have HS2 := Lib.hid hs2
              have HF := Lib.hid ((hf2.same HR.out.1).same HR.out.2)
              clear hs2 hf2 HR
              generalize wc = wB at *
              have HS4 : Hid (StR w wB P B b K z n2 e2 N ⟨(k : Int), va2, 0, x, y⟩) := HS2
              have HF4 : Hid (FldS (K.map Prod.snd) k D ((d : Int) - 1) N 4 n2 e2 ⟨(k : Int), va2, 0, x, y⟩) := HF
              obtain ⟨vk1, vt1, hr1⟩ := HS4.out.m
              obtain ⟨av1, cv1, rfl⟩ := hr1.ht.slice
              have HR1 := Lib.hid hr1
              have c3 := hr1.c3
              have f3 := hr1.fr 3
              have hown := hr1.ht
              have hBlt := hr1.blt
              have hbt := Lib.hid hr1.bt
              clear hr1
              have d0 := HS4.out.nd.c0
              have d1 := HS4.out.nd.c1
              have d2 := HS4.out.nd.c2
              have d3 := HS4.out.nd.c3
              have d4 := HS4.out.nd.c4
              dsimp only at d0 d1 d2 d3 d4
              have HKd := Lib.hid (HF4.out.kids hk)
              have hn4 : n2 ≤ 3001 := by have := HF4.out.len; omega
              clear HF4
              go_upto_region 33 with fail
              go_cut [] (fun wx => StR w wx P B b K z n2 e2 (N ++ [⟨(k : Int), va2, 0, x, y⟩]) ⟨(k : Int), va2, 0, x, y⟩)
              case first =>
                unfold OwnN at hown
                have nB : some B ≠ (Value.slice av1 N.length cv1).ownBlock := fun e => (hbt.out B e.symm).1 rfl
                have h63 : N.length + 1 ≤ maxLen := by unfold maxLen; omega
                have hby : (N.length + 1) * 40 ≤ 140737488355328 := by omega
                have hbs : 0 ≤ (wB.drew.alloc (.cells #[.int .i64 (k : Int), .int .i64 va2, .int .i64 0, .int .i64 x, .int .i64 y] 52)).heap.size := Nat.zero_le _
                obtain ⟨i0, hi0, hz0, hz1, hz2⟩ := info_parts infoND
                have hn1 : Below wB.heap.size wB (wB.alloc (.cells #[.int .i64 (k : Int), .int .i64 va2, .int .i64 0, .int .i64 x, .int .i64 y] 52)).drew := (newB wB _).drew
                have f1a := keepT (newB wB (.cells #[.int .i64 (k : Int), .int .i64 va2, .int .i64 0, .int .i64 x, .int .i64 y] 52)) c3
                have hf1 : (wB.alloc (.cells #[.int .i64 (k : Int), .int .i64 va2, .int .i64 0, .int .i64 x, .int .i64 y] 52)).drew.frozen? ⟨B, 3, none⟩ = false := (hn1.frozen (p := ⟨B, 3, none⟩) hBlt).trans f3
                go_region_law
                  ((refine step_append_lies _ (by rfl) _ _ _ (by rfl) 0 52 i0 _ 5 40 Tryz.underlying23 hi0 hz0 hz1 hz2 rfl (by omega) (.slice av1 N.length cv1) N.length (ndR N) (by rfl) (World.ownsRow.alloc (World.ownsRow.drew hown) _) ⟨wB.heap.size, 0, none⟩ 1 1 [.int .i64 (k : Int), .int .i64 va2, .int .i64 0, .int .i64 x, .int .i64 y] (by rfl) (by rfl) (World.news_of_block (cs := #[.int .i64 (k : Int), .int .i64 va2, .int .i64 0, .int .i64 x, .int .i64 y]) (t := 52) (fr := (0, 0)) (heap_alloc_new wB.drew _)) (by simp [Value.oneCell']) (by omega) h63 hby hbs (wB.heap.size + 1) (by simp) ?_
                    intro g cap2 w1 hown1 hgrow hat hlt2
                    have s1 : w1.cell? ⟨B, 3, none⟩ = some (.slice av1 N.length cv1) := by rw [hgrow.cell_far ⟨B, 3, none⟩ (by simp; omega) nB]; exact keepT hn1 c3
                    have e2 : w1.frozen? ⟨B, 3, none⟩ = false := by rw [hgrow.frozen_far ⟨B, 3, none⟩ (by simp; omega) nB]; exact hf1))
                all_goals
                  have hnw : OwnN w1 0 (.slice (some ⟨g, 0, none⟩) (N.length + 1) cap2) (N ++ [⟨(k : Int), va2, 0, x, y⟩]) := by
                    unfold OwnN
                    rw [show (N ++ [(⟨(k : Int), va2, 0, x, y⟩ : Nd)]).length = N.length + 1 by simp, ndR_app, show ndR [(⟨(k : Int), va2, 0, x, y⟩ : Nd)] = ndL ⟨(k : Int), va2, 0, x, y⟩ by simp [ndR]]
                    exact hown1
                  have hpn := RdK.pushT (HR1.out.keep hn1) hgrow hnw (by
                    rcases hat with e | e
                    · exact .inl e
                    · right
                      rw [e]
                      show (wB.alloc _).heap.size ≤ _
                      simp)
                  have HQ := Lib.hid (HS4.out.call hpn.1 ((KpP.of hn1 HS4.out.m.lt).trans hpn.2))
                  clear hpn hnw hown1 hgrow hat hlt2 s1 e2 f1a hf1
                  go_wp2_with fail
                  go_meet
                  exact HQ.out
              case rest =>
                have HS5 := Lib.hid hcut
                clear hcut HS4 HR1 c3 f3 hown hBlt hbt d0 d1 d2 d3 d4
                generalize wc = wE at *
                have d0 := HS5.out.nd.c0
                dsimp only at d0
                have HKi := Lib.hid (fun w' => rkids_any (k : Int) w')
                rw [kids_row hk] at HKi
                have HRM := Lib.hid HS5.out.out
                have HKP := Lib.hid HS5.out.kp
                obtain ⟨ks, hks⟩ : ∃ ks, ks = kdT.getD k [] := ⟨_, rfl⟩
                have hkl : ks.length ≤ 4 := by rw [hks]; exact cn_all k hk
                have hka : ∀ i, i < ks.length → (⟨(ks.map sB).toArray⟩ : ByteArray).extract i (i + 1) = ⟨[sB (ks.getD i 0)].toArray⟩ ∧ (ks.getD i 0 = 1 ∨ ks.getD i 0 = 2) := fun i hi => by
                  have := kid_at ⟨k, hk⟩ ⟨i, by omega⟩ (by rw [← hks]; exact hi)
                  dsimp only at this
                  rwa [← hks] at this
                rw [← hks] at HKi HKd
                obtain ⟨kb, hkb⟩ : ∃ kb : ByteArray, kb = ⟨(ks.map sB).toArray⟩ := ⟨_, rfl⟩
                have hkz : kb.size = ks.length := by rw [hkb]; show (ks.map sB).toArray.size = _; simp
                rw [← hkb] at HKi hka
                have HKA := Lib.hid hka
                have HZ := Lib.hid hkz
                clear hka hkb hks HS5 hkz
                go_wp2_with fail
                refine (HKi.out _).mono ?_
                rintro en w6 ⟨rfl, hb6⟩
                have HM6 := Lib.hid (HRM.out.keep hb6)
                have HP6 := Lib.hid (HKP.out.trans (KpP.of hb6 HRM.out.lt))
                clear hb6 HKi HRM HKP d0
                go_wp2_with fail
                go_loopw [14] (fun vi wx => ∃ (i n' e : Nat) (T : List Nd), i ≤ ks.length ∧ vi = .int .i64 (i : Nat) ∧ RdM wx P B K z n' e T ∧ KpP P w wx ∧ KidS (K.map Prod.snd) ks D ((d : Int) - 1) i n' e T) (fun vi _ => ks.length - (RowKit.intOf vi).toNat)
                case atStart => exact ⟨0, n2, e2, _, Nat.zero_le _, rfl, HM6.out, HP6.out, HKd.out⟩
                case round =>
                  obtain ⟨i, n5, e5, T5, hi, rfl, hm, hk5, hkd⟩ := hrel
                  have HM := Lib.hid hm
                  have HP := Lib.hid hk5
                  have HD := Lib.hid hkd
                  have hn5 : n5 ≤ 3001 := by have := TermS.len hkd; omega
                  clear hm hk5 hkd HM6 HP6 HKd
                  by_cases hlt : i < ks.length
                  · have p0 : (0 : Int) ≤ (i : Int) := by omega
                    have p1 : (i : Int) < (kb.size : Int) := by have := HZ.out; omega
                    obtain ⟨s5, hs5⟩ : ∃ s5, s5 = ks[i] := ⟨_, rfl⟩
                    have hgd : ks.getD i 0 = s5 := by rw [hs5, List.getD_eq_getElem?_getD, List.getElem?_eq_getElem hlt]; rfl
                    have hx := HKA.out i hlt
                    rw [hgd] at hx
                    have HX1 := Lib.hid hx.1
                    have HOp : Hid (e5 = 0 → TermS (K.map Prod.snd) (s5 :: (bhK (ks.drop (i + 1)) 4 ++ D)) ((d : Int) - 1 + 1) (n5 + 1) (if (K.map Prod.snd).getD n5 [] = [if i = 0 then 40 else 44] then 0 else 13) T5) := Lib.hid (by
                      intro he
                      subst he
                      rw [hs5]
                      exact KidS.open_ hlt HD.out)
                    have HBd : Hid (e5 ≠ 0 → TermS (K.map Prod.snd) (s5 :: (bhK (ks.drop (i + 1)) 4 ++ D)) ((d : Int) - 1 + 1) n5 e5 T5) := Lib.hid (fun he => KidS.bad HD.out he)
                    have HTr := Lib.hid (fun w' n' e' T' h ht => rterm_trm HIH.out P B K HTk.out z n' e' s5 hx.2 (bhK (ks.drop (i + 1)) 4 ++ D) T' w' h ht)
                    have HLt := Lib.hid hlt
                    clear hgd hx hs5 hlt
                    go_upto_if 151 with fail
                    go_cut [] from 144 to 164 (fun wx => ∃ n' e', RdM wx P B K z n' e' T5 ∧ KpP P w wx ∧ TermS (K.map Prod.snd) (s5 :: (bhK (ks.drop (i + 1)) 4 ++ D)) ((d : Int) - 1 + 1) n' e' T5)
                    case first =>
                      by_cases i0 : i = 0
                      · subst i0
                        have HMk := Lib.hid (rmark_trm P B K z n5 e5 T5 40 (by omega) wr HM.out HOp.out HBd.out)
                        go_wp2_with fail
                        refine (HMk.out).mono ?_
                        rintro en w7 ⟨rfl, n', e', h1, h2, h3⟩
                        have H1 := Lib.hid h1
                        have H2 := Lib.hid (HP.out.trans h2)
                        have H3 := Lib.hid h3
                        clear h1 h2 h3 HMk
                        go_wp2_with fail
                        go_meet
                        exact ⟨n', e', H1.out, H2.out, H3.out⟩
                      · rw [if_neg i0] at HOp
                        have b0 : ((i : Int) == 0) = false := beq_false_of_ne (by omega)
                        have HMk := Lib.hid (rmark_trm P B K z n5 e5 T5 44 (by omega) wr HM.out HOp.out HBd.out)
                        clear i0
                        go_wp2_with fail
                        refine (HMk.out).mono ?_
                        rintro en w7 ⟨rfl, n', e', h1, h2, h3⟩
                        have H1 := Lib.hid h1
                        have H2 := Lib.hid (HP.out.trans h2)
                        have H3 := Lib.hid h3
                        clear h1 h2 h3 HMk
                        go_wp2_with fail
                        go_meet
                        exact ⟨n', e', H1.out, H2.out, H3.out⟩
                    case rest =>
                      obtain ⟨n6, e6, h1, h2, h3⟩ := hcut
                      have HTr2 := Lib.hid (HTr.out _ n6 e6 T5 h1 h3)
                      have H2 := Lib.hid h2
                      clear h1 h2 h3 HTr HOp HBd HD HM HP
                      generalize wc = wF at *
                      have q0 : (i : Int) ≤ (i : Int) + 1 := by omega
                      have q1 : (i : Int) + 1 ≤ (kb.size : Int) := by omega
                      have q2 : ((i : Int) + 1).toNat = i + 1 := by omega
                      go_wp2_with fail
                      rw [HX1.out]
                      refine (HTr2.out).mono ?_
                      rintro en w7 ⟨rfl, n', e', T', h1, h2, h3⟩
                      have H1 := Lib.hid h1
                      have H3 := Lib.hid (H2.out.trans h2)
                      have H4 := Lib.hid (KidS.next (i := i) h3)
                      clear h1 h2 h3 HTr2 H2
                      go_wp2_with fail
                      go_roundw
                      case rel => exact ⟨i + 1, n', e', T', HLt.out, by go_num, H1.out, H3.out, H4.out⟩
                      case measure => have := HLt.out; simp [RowKit.intOf]; omega
                  · have hie : i = ks.length := by omega
                    subst hie
                    have p1 : ¬ (ks.length : Int) < (kb.size : Int) := by have := HZ.out; omega
                    by_cases hz : ks.length = 0
                    · have p2 : ¬ 0 < (kb.size : Int) := by have := HZ.out; omega
                      have HE : Hid (TermS (K.map Prod.snd) D ((d : Int) - 1) n5 e5 T5) := Lib.hid (by
                        have hk0 : ks = [] := List.length_eq_zero_iff.1 hz
                        have := HD.out
                        subst hk0
                        exact this.noKids rfl)
                      clear hlt hz
                      go_wp2_with fail
                      go_end0
                      exact ⟨rfl, n5, e5, T5, HM.out, HP.out, HE.out⟩
                    · have p2 : 0 < (kb.size : Int) := by have := HZ.out; omega
                      have HMk := Lib.hid (rmark_trm P B K z n5 e5 T5 41 (by omega) wr HM.out (D := D) (o := (d : Int) - 1) (fun he => by have := HD.out; rw [he] at this; exact KidS.close this hz) (fun he => KidS.bad HD.out he))
                      clear hlt hz
                      go_wp2_with fail
                      refine (HMk.out).mono ?_
                      rintro en w7 ⟨rfl, n', e', h1, h2, h3⟩
                      have H1 := Lib.hid h1
                      have H2 := Lib.hid (HP.out.trans h2)
                      have H3 := Lib.hid h3
                      clear h1 h2 h3 HMk
                      go_wp2_with fail
                      go_end0
                      exact ⟨rfl, n', e', T5, H1.out, H2.out, H3.out⟩

end Go.Proofs.YtdmdgoeacafpiaaGreatDoor

namespace Go.Proofs.YtdmdgoeacafpiaaGreatDoor
open Go.RowKit Go.Lib
set_option linter.unusedVariables false
set_option linter.unusedSimpArgs false

set_option maxHeartbeats 8000000 in
set_option maxRecDepth 100000 in
theorem rterm_when (d : Nat) (hd1 : 1 ≤ d) (hd : d ≤ 13) (IH : d ≤ 12 → TermC (d + 1)) (P : Nat → Prop) (B : Nat) (K : List Tk) (z n s : Nat) (D : List Nat) (w : World) (N : List Nd) (hT : TkOk K) (h : RdM w P B K z n 0 N) (hg : Gd (K.map Prod.snd) n ⟨N, (d : Int) - 1, s :: D⟩) (hs : s = 1 ∨ s = 2) (hq : n < K.length) (HK0 : Hid (opW (tkW K n) ≠ 0)) (HKs : Hid (mkT.getD (opW (tkW K n)) 0 = s)) (HDp : Hid (¬ (64 ≤ N.length ∨ 12 < d))) (HC : Hid (opW (tkW K n) = 14)) :
    Calls Tryz.prog 13 #[.pointer (some ⟨B, 0, none⟩), .string ⟨[sB s].toArray⟩, .int .i64 (d : Nat)] w fun en w' => en = .returned (.tuple #[]) ∧ ∃ n' e T, RdM w' P B K z n' e T ∧ KpP P w w' ∧ TermS (K.map Prod.snd) D ((d : Int) - 1) n' e T := by
  have hK := hT.1
  have c2 := h.cells.2.1
  have hWl : (K.map Prod.snd).length = K.length := List.length_map ..
  have hn : n ≤ 3000 := by have := hg.1; omega
  have HX := Lib.hid (rnext_any P B K z n 0 N (by omega) w h)
  have HP := Lib.hid h.lt
  obtain ⟨ht1, ht2⟩ := hT.2 n hq
  have hq' : n < (K.map Prod.snd).length := by omega
  have hWn := tkW_map K n hq'
  have hF := take_first hs ht1 N ((d : Int) - 1) D
  obtain ⟨x, y, hnod, hxy⟩ := nodW_form (tkW K n)
  have HPa : Hid (∀ w', Calls Tryz.prog 21 #[.string ⟨(tkW K n).toArray⟩] w' fun e w'' => (match ratW (tkW K n) with | some (n, d) => e = .returned (.tuple #[.agg #[.int .i64 n, .int .i64 d], .int .i64 0]) | none => e = .returned (.tuple #[.agg #[.int .i64 0, .int .i64 0], .int .i64 13])) ∧ Below w'.heap.size w' w'') := Lib.hid (fun w' => (rparse_any ⟨(tkW K n).toArray⟩ (by rw [size_len]; show (tkW K n).length ≤ _; omega) w').mono (fun e w'' he => parse_rat he))
  rw [if_pos hq] at HX
  have HG := Lib.hid hg
  have HF := Lib.hid hF
  have HWn := Lib.hid hWn
  have HN := Lib.hid hnod
  have HXY := Lib.hid hxy
  have HTk := Lib.hid hT
  clear hWn hF hnod hxy hg ht2 h hT hWl ht1
  go_enter Tryz.func13, Tryz.ntmps13
  go_wp2_with fail
  refine (HX.out).mono ?_
  rintro en w1 ⟨rfl, hm, hk⟩
  have HM := Lib.hid hm
  have HK := Lib.hid hk
  have c2 := hm.cells.2.1
  clear hm hk HX
  generalize tkW K n = tk at *
  go_wp2_with fail
  refine (HPa.out _).mono ?_
  rintro en w2 ⟨hen, hb2⟩
  obtain ⟨a1, a2, e1, rfl, he1⟩ : ∃ a1 a2 e1 : Int, en = .returned (.tuple #[.agg #[.int .i64 a1, .int .i64 a2], .int .i64 e1]) ∧ (e1 = 0 ∧ x = a1 ∧ y = a2 ∧ opJ tk 2 = 1 ∨ e1 = 13 ∧ x = 0 ∧ y = 0 ∧ opJ tk 2 = 0) := by
    have hxy := HXY.out
    cases hr : ratW tk with
    | none =>
      rw [hr] at hen hxy
      exact ⟨0, 0, 13, hen, .inr ⟨rfl, hxy⟩⟩
    | some p =>
      obtain ⟨p1, p2⟩ := p
      rw [hr] at hen hxy
      exact ⟨p1, p2, 0, hen, .inl ⟨rfl, hxy⟩⟩
  have HE1 := Lib.hid he1
  have hS0 := StR.start HM.out HK.out HP.out ⟨0, 0, 0, 0, 0⟩ 52
  have HS2 := Lib.hid ((hS0.below hb2).below (newB w2 (.cells #[.int .i64 a1, .int .i64 a2] 50)))
  have hvb : w1.heap.size < w2.heap.size := Nat.lt_of_lt_of_le (by rw [World.size_alloc]; exact Nat.lt_succ_self _) hb2.size
  have v0 : (w2.alloc (.cells #[.int .i64 a1, .int .i64 a2] 50)).cell? ⟨w2.heap.size, 0, none⟩ = some (.int .i64 a1) := by rw [World.cell?_alloc_at _ _ _ _ rfl]; rfl
  have v1 : (w2.alloc (.cells #[.int .i64 a1, .int .i64 a2] 50)).cell? ⟨w2.heap.size, 1, none⟩ = some (.int .i64 a2) := by rw [World.cell?_alloc_at _ _ _ _ rfl]; rfl
  clear he1 hen hS0 hb2 HXY HPa c2 HM HK
  generalize w1.heap.size = b at *
  go_upto_if 34 with fail
  generalize w2.alloc (.cells #[.int .i64 a1, .int .i64 a2] 50) = w3 at *
  generalize w2.heap.size = b2 at *
  go_cut [] (fun wx => StR w wx P B b K z (n + 1) 0 N ⟨(opJ tk 2 : Nat), 0, 0, x, y⟩)
  case first =>
    rcases HE1.out with ⟨h1, h2, h3, h4⟩ | ⟨h1, h2, h3, h4⟩
    · subst h1 h2 h3
      have hnd := HS2.out.nd
      have d0 := hnd.c0
      have d3 := hnd.c3
      have d4 := hnd.c4
      have f0 := hnd.fr 0
      have f3 := hnd.fr 3
      have f4 := hnd.fr 4
      have HH := Lib.hid h4
      dsimp only at d0 d3 d4
      clear hnd h4
      have hne : b ≠ b2 := by omega
      have v0' : (w3.setCell ⟨b, 0, none⟩ (.int .i64 1)).cell? ⟨b2, 0, none⟩ = some (.int .i64 x) := (cell_far (.inl hne)).trans v0
      have v1' : (w3.setCell ⟨b, 0, none⟩ (.int .i64 1)).cell? ⟨b2, 1, none⟩ = some (.int .i64 y) := (cell_far (.inl hne)).trans v1
      go_wp2_with fail
      go_meet
      rw [HH.out]
      exact ((HS2.out.setOp 1).setX _).setY _
    · subst h1 h2 h3
      have HH := Lib.hid h4
      clear h4
      go_wp2_with fail
      go_meet
      rw [HH.out]
      exact HS2.out
  case rest =>
    have HS3 := Lib.hid hcut
    clear hcut HS2 HE1 v0 v1 hvb c2
    go_wp2_with fail
    go_loopw [10] (fun vo wx => ∃ j : Nat, 2 ≤ j ∧ j ≤ 18 ∧ vo = .int .i64 (j : Nat) ∧ StR w wx P B b K z (n + 1) 0 N ⟨(opJ tk j : Nat), 0, 0, x, y⟩) (fun vo _ => 18 - (RowKit.intOf vo).toNat)
    case atStart => exact ⟨2, by omega, by omega, rfl, HS3.out⟩
    case round =>
      obtain ⟨j, hj2, hj, rfl, hst⟩ := hrel
      have HSr := Lib.hid hst
      clear hst HS3
      by_cases hlt : j < 18
      · have p1 : (j : Int) < 18 := by omega
        have HW := Lib.hid (fun w' => rword_any j hlt w')
        have HHit := Lib.hid (opJ_hit (w := tk) hj2)
        have HMiss := Lib.hid (opJ_miss (w := tk) (j := j))
        have HJ := Lib.hid hlt
        generalize wdN j = wd at *
        clear hlt
        go_wp2_with fail
        refine (HW.out _).mono ?_
        rintro en w4 ⟨rfl, hb4⟩
        have HS4 := Lib.hid (HSr.out.below hb4)
        have d0 := HS4.out.nd.c0
        have f0 := HS4.out.nd.fr 0
        dsimp only at d0
        clear hb4 HW
        by_cases hw : wd = tk
        · subst hw
          have HH := Lib.hid (HHit.out rfl)
          go_wp2_with fail
          go_roundw
          case rel => exact ⟨j + 1, by omega, HJ.out, by go_num, by rw [HH.out]; exact HS4.out.setOp _⟩
          case measure => have := HJ.out; simp [RowKit.intOf]; omega
        · have HH := Lib.hid (HMiss.out hw)
          have hw2 : (wd == tk) = false := beq_false_of_ne hw
          clear d0
          go_wp2_with fail
          go_roundw
          case rel => exact ⟨j + 1, by omega, HJ.out, by go_num, by rw [HH.out]; exact HS4.out⟩
          case measure => have := HJ.out; simp [RowKit.intOf]; omega
      · obtain rfl : j = 18 := by omega
        rw [opJ_end] at HSr
        have hk := opW_lt tk
        have HBad : Hid (∀ e', e' ≠ 0 → (takeM ⟨N, (d : Int) - 1, s :: D⟩ tk).1 = e' → Wr (K.map Prod.snd) n e') := Lib.hid (fun e' h1 h2 => by
          have := HG.out.bad hq' (by rw [HWn.out, h2]; exact h1)
          rw [HWn.out, h2] at this
          exact this)
        have HNx : Hid ((takeM ⟨N, (d : Int) - 1, s :: D⟩ tk).1 = 0 → Gd (K.map Prod.snd) (n + 1) (takeM ⟨N, (d : Int) - 1, s :: D⟩ tk).2) := Lib.hid (fun h2 => by
          have := HG.out.next hq' (by rw [HWn.out, h2])
          rw [HWn.out] at this
          exact this)
        rw [HF.out, HN.out] at HBad HNx
        clear HF HN HG HWn hlt hj hj2
        generalize opW tk = k at *
        have d0 := HSr.out.nd.c0
        have c2 := HSr.out.m.cells.2.1
        have f2 := HSr.out.m.cells.2.2.1 2
        have p1 : ¬ (18 : Int) < 18 := by omega
        dsimp only at d0
        have hk0 := HK0.out
        have hks := HKs.out
        have hdp := HDp.out
        have e0 : ¬ (k : Int) = 0 := by omega
        have e1 : ((k : Int) == 0) = false := beq_false_of_ne e0
        have HSo := Lib.hid (fun w' => rsort_any (k : Int) w')
        rw [sort_row hk hk0, hks] at HSo
        obtain ⟨vk0, vt0, hrk⟩ := HSr.out.m
        obtain ⟨av, cv, rfl⟩ := hrk.ht.slice
        have c3 := hrk.c3
        clear hrk
        generalize [sB s] = l1 at *
        have HF0 := Lib.hid (fld_begin hk (by
          have := HNx.out (by rw [if_neg (fun h => h.elim hk0 (fun q => q hks)), begM, if_neg (by dsimp only; omega)])
          rwa [if_neg (fun h => h.elim hk0 (fun q => q hks)), begM, if_neg (by dsimp only; omega)] at this))
        have h12 : d ≤ 12 := by omega
        have HIH := Lib.hid (IH h12)
        have i1 : ¬ (64 : Int) ≤ (N.length : Int) := by omega
        have i2 : ¬ (12 : Int) < (d : Int) := by omega
        have hNl : N.length < 64 := by omega
        have hWl : (K.map Prod.snd).length = K.length := List.length_map ..
        clear HBad HNx IH hdp hks HK0 HKs HDp
        go_wp2_with fail
        refine (HSo.out _).mono ?_
        rintro en w5 ⟨rfl, rfl⟩
        clear HSo
        go_upto_region 17 with fail
        clear c2 c3 i1 i2 f2 hk0 e0 e1
        have hc := HC.out
        have b2 : ((k : Int) == 2) = false := by rw [hc]; rfl
        have b16 : ((k : Int) == 16) = false := by rw [hc]; rfl
        have b17 : ((k : Int) == 17) = false := by rw [hc]; rfl
        have b10 : ((k : Int) == 10) = false := by rw [hc]; rfl
        have b14 : ((k : Int) == 14) = true := by rw [hc]; rfl
        have r0 := remF_key ⟨k, hk⟩
        dsimp only at r0
        rw [if_neg (by omega)] at r0
        have r1 := remF_name ⟨k, hk⟩
        dsimp only at r1
        rw [if_neg (by omega)] at r1
        have r2 := remF_day ⟨k, hk⟩
        dsimp only at r2
        rw [if_pos (by omega)] at r2
        have r3 := remF_unt ⟨k, hk⟩
        dsimp only at r3
        rw [if_neg (by omega)] at r3
        have HKy := Lib.hid (rday_fld _ B K HTk.out z (n + 1) 0 k D ((d : Int) - 1) N _ wr HSr.out.m ((HF0.out.same r0).same r1) r2)
        have HR := Lib.hid r3
        clear r0 r1 r2 r3 hc HC
        go_wp2_with fail
        refine (HKy.out).mono ?_
        rintro en w6 ⟨v, n', e', rfl, hm, hk6, hf⟩
        have HS6 := Lib.hid (HSr.out.call hm hk6)
        have HF6 := Lib.hid hf
        have d0 := HS6.out.nd.c0
        have d1 := HS6.out.nd.c1
        have f1 := HS6.out.nd.fr 1
        dsimp only at d0 d1
        clear hm hk6 hf HKy
        have HS7 := Lib.hid (HS6.out.setA v)
        have HF := Lib.hid (HF6.out.same HR.out)
        clear HS6 HF6 HR
        go_upto_region 31 with fail
        clear d0 d1 f1
        generalize w6.setCell ⟨b, 1, none⟩ (.int .i64 v) = w7 at *
        have HS4 : Hid (StR w w7 P B b K z n' e' N ⟨(k : Int), v, 0, x, y⟩) := HS7
        have HF4 : Hid (FldS (K.map Prod.snd) k D ((d : Int) - 1) N 4 n' e' ⟨(k : Int), v, 0, x, y⟩) := HF
        obtain ⟨vk1, vt1, hr1⟩ := HS4.out.m
        obtain ⟨av1, cv1, rfl⟩ := hr1.ht.slice
        have HR1 := Lib.hid hr1
        have c3 := hr1.c3
        have f3 := hr1.fr 3
        have hown := hr1.ht
        have hBlt := hr1.blt
        have hbt := Lib.hid hr1.bt
        clear hr1
        have d0 := HS4.out.nd.c0
        have d1 := HS4.out.nd.c1
        have d2 := HS4.out.nd.c2
        have d3 := HS4.out.nd.c3
        have d4 := HS4.out.nd.c4
        dsimp only at d0 d1 d2 d3 d4
        have HKd := Lib.hid (HF4.out.kids hk)
        have hn4 : n' ≤ 3001 := by have := HF4.out.len; omega
        clear HF4
        go_upto_region 33 with fail
        go_cut [] (fun wx => StR w wx P B b K z n' e' (N ++ [⟨(k : Int), v, 0, x, y⟩]) ⟨(k : Int), v, 0, x, y⟩)
        case first =>
          unfold OwnN at hown
          have nB : some B ≠ (Value.slice av1 N.length cv1).ownBlock := fun e => (hbt.out B e.symm).1 rfl
          have h63 : N.length + 1 ≤ maxLen := by unfold maxLen; omega
          have hby : (N.length + 1) * 40 ≤ 140737488355328 := by omega
          have hbs : 0 ≤ (w7.drew.alloc (.cells #[.int .i64 (k : Int), .int .i64 v, .int .i64 0, .int .i64 x, .int .i64 y] 52)).heap.size := Nat.zero_le _
          obtain ⟨i0, hi0, hz0, hz1, hz2⟩ := info_parts infoND
          have hn1 : Below w7.heap.size w7 (w7.alloc (.cells #[.int .i64 (k : Int), .int .i64 v, .int .i64 0, .int .i64 x, .int .i64 y] 52)).drew := (newB w7 _).drew
          have f1a := keepT (newB w7 (.cells #[.int .i64 (k : Int), .int .i64 v, .int .i64 0, .int .i64 x, .int .i64 y] 52)) c3
          have hf1 : (w7.alloc (.cells #[.int .i64 (k : Int), .int .i64 v, .int .i64 0, .int .i64 x, .int .i64 y] 52)).drew.frozen? ⟨B, 3, none⟩ = false := (hn1.frozen (p := ⟨B, 3, none⟩) hBlt).trans f3
          go_region_law
            ((refine step_append_lies _ (by rfl) _ _ _ (by rfl) 0 52 i0 _ 5 40 Tryz.underlying23 hi0 hz0 hz1 hz2 rfl (by omega) (.slice av1 N.length cv1) N.length (ndR N) (by rfl) (World.ownsRow.alloc (World.ownsRow.drew hown) _) ⟨w7.heap.size, 0, none⟩ 1 1 [.int .i64 (k : Int), .int .i64 v, .int .i64 0, .int .i64 x, .int .i64 y] (by rfl) (by rfl) (World.news_of_block (cs := #[.int .i64 (k : Int), .int .i64 v, .int .i64 0, .int .i64 x, .int .i64 y]) (t := 52) (fr := (0, 0)) (heap_alloc_new w7.drew _)) (by simp [Value.oneCell']) (by omega) h63 hby hbs (w7.heap.size + 1) (by simp) ?_
              intro g cap2 w1 hown1 hgrow hat hlt2
              have s1 : w1.cell? ⟨B, 3, none⟩ = some (.slice av1 N.length cv1) := by rw [hgrow.cell_far ⟨B, 3, none⟩ (by simp; omega) nB]; exact keepT hn1 c3
              have e2 : w1.frozen? ⟨B, 3, none⟩ = false := by rw [hgrow.frozen_far ⟨B, 3, none⟩ (by simp; omega) nB]; exact hf1))
          all_goals
            have hnw : OwnN w1 0 (.slice (some ⟨g, 0, none⟩) (N.length + 1) cap2) (N ++ [⟨(k : Int), v, 0, x, y⟩]) := by
              unfold OwnN
              rw [show (N ++ [(⟨(k : Int), v, 0, x, y⟩ : Nd)]).length = N.length + 1 by simp, ndR_app, show ndR [(⟨(k : Int), v, 0, x, y⟩ : Nd)] = ndL ⟨(k : Int), v, 0, x, y⟩ by simp [ndR]]
              exact hown1
            have hpn := RdK.pushT (HR1.out.keep hn1) hgrow hnw (by
              rcases hat with e | e
              · exact .inl e
              · right
                rw [e]
                show (w7.alloc _).heap.size ≤ _
                simp)
            have HQ := Lib.hid (HS4.out.call hpn.1 ((KpP.of hn1 HS4.out.m.lt).trans hpn.2))
            clear hpn hnw hown1 hgrow hat hlt2 s1 e2 f1a hf1
            go_wp2_with fail
            go_meet
            exact HQ.out
        case rest =>
          have HS5 := Lib.hid hcut
          clear hcut HS4 HR1 c3 f3 hown hBlt hbt d0 d1 d2 d3 d4
          generalize wc = wE at *
          have d0 := HS5.out.nd.c0
          dsimp only at d0
          have HKi := Lib.hid (fun w' => rkids_any (k : Int) w')
          rw [kids_row hk] at HKi
          have HRM := Lib.hid HS5.out.out
          have HKP := Lib.hid HS5.out.kp
          obtain ⟨ks, hks⟩ : ∃ ks, ks = kdT.getD k [] := ⟨_, rfl⟩
          have hkl : ks.length ≤ 4 := by rw [hks]; exact cn_all k hk
          have hka : ∀ i, i < ks.length → (⟨(ks.map sB).toArray⟩ : ByteArray).extract i (i + 1) = ⟨[sB (ks.getD i 0)].toArray⟩ ∧ (ks.getD i 0 = 1 ∨ ks.getD i 0 = 2) := fun i hi => by
            have := kid_at ⟨k, hk⟩ ⟨i, by omega⟩ (by rw [← hks]; exact hi)
            dsimp only at this
            rwa [← hks] at this
          rw [← hks] at HKi HKd
          obtain ⟨kb, hkb⟩ : ∃ kb : ByteArray, kb = ⟨(ks.map sB).toArray⟩ := ⟨_, rfl⟩
          have hkz : kb.size = ks.length := by rw [hkb]; show (ks.map sB).toArray.size = _; simp
          rw [← hkb] at HKi hka
          have HKA := Lib.hid hka
          have HZ := Lib.hid hkz
          clear hka hkb hks HS5 hkz
          go_wp2_with fail
          refine (HKi.out _).mono ?_
          rintro en w6 ⟨rfl, hb6⟩
          have HM6 := Lib.hid (HRM.out.keep hb6)
          have HP6 := Lib.hid (HKP.out.trans (KpP.of hb6 HRM.out.lt))
          clear hb6 HKi HRM HKP d0
          go_wp2_with fail
          go_loopw [14] (fun vi wx => ∃ (i n' e : Nat) (T : List Nd), i ≤ ks.length ∧ vi = .int .i64 (i : Nat) ∧ RdM wx P B K z n' e T ∧ KpP P w wx ∧ KidS (K.map Prod.snd) ks D ((d : Int) - 1) i n' e T) (fun vi _ => ks.length - (RowKit.intOf vi).toNat)
          case atStart => exact ⟨0, n', e', _, Nat.zero_le _, rfl, HM6.out, HP6.out, HKd.out⟩
          case round =>
            obtain ⟨i, n5, e5, T5, hi, rfl, hm, hk5, hkd⟩ := hrel
            have HM := Lib.hid hm
            have HP := Lib.hid hk5
            have HD := Lib.hid hkd
            have hn5 : n5 ≤ 3001 := by have := TermS.len hkd; omega
            clear hm hk5 hkd HM6 HP6 HKd
            by_cases hlt : i < ks.length
            · have p0 : (0 : Int) ≤ (i : Int) := by omega
              have p1 : (i : Int) < (kb.size : Int) := by have := HZ.out; omega
              obtain ⟨s5, hs5⟩ : ∃ s5, s5 = ks[i] := ⟨_, rfl⟩
              have hgd : ks.getD i 0 = s5 := by rw [hs5, List.getD_eq_getElem?_getD, List.getElem?_eq_getElem hlt]; rfl
              have hx := HKA.out i hlt
              rw [hgd] at hx
              have HX1 := Lib.hid hx.1
              have HOp : Hid (e5 = 0 → TermS (K.map Prod.snd) (s5 :: (bhK (ks.drop (i + 1)) 4 ++ D)) ((d : Int) - 1 + 1) (n5 + 1) (if (K.map Prod.snd).getD n5 [] = [if i = 0 then 40 else 44] then 0 else 13) T5) := Lib.hid (by
                intro he
                subst he
                rw [hs5]
                exact KidS.open_ hlt HD.out)
              have HBd : Hid (e5 ≠ 0 → TermS (K.map Prod.snd) (s5 :: (bhK (ks.drop (i + 1)) 4 ++ D)) ((d : Int) - 1 + 1) n5 e5 T5) := Lib.hid (fun he => KidS.bad HD.out he)
              have HTr := Lib.hid (fun w' n' e' T' h ht => rterm_trm HIH.out P B K HTk.out z n' e' s5 hx.2 (bhK (ks.drop (i + 1)) 4 ++ D) T' w' h ht)
              have HLt := Lib.hid hlt
              clear hgd hx hs5 hlt
              go_upto_if 151 with fail
              go_cut [] from 144 to 164 (fun wx => ∃ n' e', RdM wx P B K z n' e' T5 ∧ KpP P w wx ∧ TermS (K.map Prod.snd) (s5 :: (bhK (ks.drop (i + 1)) 4 ++ D)) ((d : Int) - 1 + 1) n' e' T5)
              case first =>
                by_cases i0 : i = 0
                · subst i0
                  have HMk := Lib.hid (rmark_trm P B K z n5 e5 T5 40 (by omega) wr HM.out HOp.out HBd.out)
                  go_wp2_with fail
                  refine (HMk.out).mono ?_
                  rintro en w7 ⟨rfl, n', e', h1, h2, h3⟩
                  have H1 := Lib.hid h1
                  have H2 := Lib.hid (HP.out.trans h2)
                  have H3 := Lib.hid h3
                  clear h1 h2 h3 HMk
                  go_wp2_with fail
                  go_meet
                  exact ⟨n', e', H1.out, H2.out, H3.out⟩
                · rw [if_neg i0] at HOp
                  have b0 : ((i : Int) == 0) = false := beq_false_of_ne (by omega)
                  have HMk := Lib.hid (rmark_trm P B K z n5 e5 T5 44 (by omega) wr HM.out HOp.out HBd.out)
                  clear i0
                  go_wp2_with fail
                  refine (HMk.out).mono ?_
                  rintro en w7 ⟨rfl, n', e', h1, h2, h3⟩
                  have H1 := Lib.hid h1
                  have H2 := Lib.hid (HP.out.trans h2)
                  have H3 := Lib.hid h3
                  clear h1 h2 h3 HMk
                  go_wp2_with fail
                  go_meet
                  exact ⟨n', e', H1.out, H2.out, H3.out⟩
              case rest =>
                obtain ⟨n6, e6, h1, h2, h3⟩ := hcut
                have HTr2 := Lib.hid (HTr.out _ n6 e6 T5 h1 h3)
                have H2 := Lib.hid h2
                clear h1 h2 h3 HTr HOp HBd HD HM HP
                generalize wc = wF at *
                have q0 : (i : Int) ≤ (i : Int) + 1 := by omega
                have q1 : (i : Int) + 1 ≤ (kb.size : Int) := by omega
                have q2 : ((i : Int) + 1).toNat = i + 1 := by omega
                go_wp2_with fail
                rw [HX1.out]
                refine (HTr2.out).mono ?_
                rintro en w7 ⟨rfl, n', e', T', h1, h2, h3⟩
                have H1 := Lib.hid h1
                have H3 := Lib.hid (H2.out.trans h2)
                have H4 := Lib.hid (KidS.next (i := i) h3)
                clear h1 h2 h3 HTr2 H2
                go_wp2_with fail
                go_roundw
                case rel => exact ⟨i + 1, n', e', T', HLt.out, by go_num, H1.out, H3.out, H4.out⟩
                case measure => have := HLt.out; simp [RowKit.intOf]; omega
            · have hie : i = ks.length := by omega
              subst hie
              have p1 : ¬ (ks.length : Int) < (kb.size : Int) := by have := HZ.out; omega
              by_cases hz : ks.length = 0
              · have p2 : ¬ 0 < (kb.size : Int) := by have := HZ.out; omega
                have HE : Hid (TermS (K.map Prod.snd) D ((d : Int) - 1) n5 e5 T5) := Lib.hid (by
                  have hk0 : ks = [] := List.length_eq_zero_iff.1 hz
                  have := HD.out
                  subst hk0
                  exact this.noKids rfl)
                clear hlt hz
                go_wp2_with fail
                go_end0
                exact ⟨rfl, n5, e5, T5, HM.out, HP.out, HE.out⟩
              · have p2 : 0 < (kb.size : Int) := by have := HZ.out; omega
                have HMk := Lib.hid (rmark_trm P B K z n5 e5 T5 41 (by omega) wr HM.out (D := D) (o := (d : Int) - 1) (fun he => by have := HD.out; rw [he] at this; exact KidS.close this hz) (fun he => KidS.bad HD.out he))
                clear hlt hz
                go_wp2_with fail
                refine (HMk.out).mono ?_
                rintro en w7 ⟨rfl, n', e', h1, h2, h3⟩
                have H1 := Lib.hid h1
                have H2 := Lib.hid (HP.out.trans h2)
                have H3 := Lib.hid h3
                clear h1 h2 h3 HMk
                go_wp2_with fail
                go_end0
                exact ⟨rfl, n', e', T5, H1.out, H2.out, H3.out⟩

end Go.Proofs.YtdmdgoeacafpiaaGreatDoor

namespace Go.Proofs.YtdmdgoeacafpiaaGreatDoor
open Go.RowKit Go.Lib
set_option linter.unusedVariables false
set_option linter.unusedSimpArgs false

set_option maxHeartbeats 8000000 in
set_option maxRecDepth 100000 in
theorem rterm_any (d : Nat) (hd1 : 1 ≤ d) (hd : d ≤ 13) (IH : d ≤ 12 → TermC (d + 1)) (P : Nat → Prop) (B : Nat) (K : List Tk) (z n s : Nat) (D : List Nat) (w : World) (N : List Nd) (hT : TkOk K) (h : RdM w P B K z n 0 N) (hg : Gd (K.map Prod.snd) n ⟨N, (d : Int) - 1, s :: D⟩) (hs : s = 1 ∨ s = 2) (hq : n < K.length) (HK0 : Hid (opW (tkW K n) ≠ 0)) (HKs : Hid (mkT.getD (opW (tkW K n)) 0 = s)) (HDp : Hid (¬ (64 ≤ N.length ∨ 12 < d))) (HC : Hid (opW (tkW K n) = 17)) :
    Calls Tryz.prog 13 #[.pointer (some ⟨B, 0, none⟩), .string ⟨[sB s].toArray⟩, .int .i64 (d : Nat)] w fun en w' => en = .returned (.tuple #[]) ∧ ∃ n' e T, RdM w' P B K z n' e T ∧ KpP P w w' ∧ TermS (K.map Prod.snd) D ((d : Int) - 1) n' e T := by
  have hK := hT.1
  have c2 := h.cells.2.1
  have hWl : (K.map Prod.snd).length = K.length := List.length_map ..
  have hn : n ≤ 3000 := by have := hg.1; omega
  have HX := Lib.hid (rnext_any P B K z n 0 N (by omega) w h)
  have HP := Lib.hid h.lt
  obtain ⟨ht1, ht2⟩ := hT.2 n hq
  have hq' : n < (K.map Prod.snd).length := by omega
  have hWn := tkW_map K n hq'
  have hF := take_first hs ht1 N ((d : Int) - 1) D
  obtain ⟨x, y, hnod, hxy⟩ := nodW_form (tkW K n)
  have HPa : Hid (∀ w', Calls Tryz.prog 21 #[.string ⟨(tkW K n).toArray⟩] w' fun e w'' => (match ratW (tkW K n) with | some (n, d) => e = .returned (.tuple #[.agg #[.int .i64 n, .int .i64 d], .int .i64 0]) | none => e = .returned (.tuple #[.agg #[.int .i64 0, .int .i64 0], .int .i64 13])) ∧ Below w'.heap.size w' w'') := Lib.hid (fun w' => (rparse_any ⟨(tkW K n).toArray⟩ (by rw [size_len]; show (tkW K n).length ≤ _; omega) w').mono (fun e w'' he => parse_rat he))
  rw [if_pos hq] at HX
  have HG := Lib.hid hg
  have HF := Lib.hid hF
  have HWn := Lib.hid hWn
  have HN := Lib.hid hnod
  have HXY := Lib.hid hxy
  have HTk := Lib.hid hT
  clear hWn hF hnod hxy hg ht2 h hT hWl ht1
  go_enter Tryz.func13, Tryz.ntmps13
  go_wp2_with fail
  refine (HX.out).mono ?_
  rintro en w1 ⟨rfl, hm, hk⟩
  have HM := Lib.hid hm
  have HK := Lib.hid hk
  have c2 := hm.cells.2.1
  clear hm hk HX
  generalize tkW K n = tk at *
  go_wp2_with fail
  refine (HPa.out _).mono ?_
  rintro en w2 ⟨hen, hb2⟩
  obtain ⟨a1, a2, e1, rfl, he1⟩ : ∃ a1 a2 e1 : Int, en = .returned (.tuple #[.agg #[.int .i64 a1, .int .i64 a2], .int .i64 e1]) ∧ (e1 = 0 ∧ x = a1 ∧ y = a2 ∧ opJ tk 2 = 1 ∨ e1 = 13 ∧ x = 0 ∧ y = 0 ∧ opJ tk 2 = 0) := by
    have hxy := HXY.out
    cases hr : ratW tk with
    | none =>
      rw [hr] at hen hxy
      exact ⟨0, 0, 13, hen, .inr ⟨rfl, hxy⟩⟩
    | some p =>
      obtain ⟨p1, p2⟩ := p
      rw [hr] at hen hxy
      exact ⟨p1, p2, 0, hen, .inl ⟨rfl, hxy⟩⟩
  have HE1 := Lib.hid he1
  have hS0 := StR.start HM.out HK.out HP.out ⟨0, 0, 0, 0, 0⟩ 52
  have HS2 := Lib.hid ((hS0.below hb2).below (newB w2 (.cells #[.int .i64 a1, .int .i64 a2] 50)))
  have hvb : w1.heap.size < w2.heap.size := Nat.lt_of_lt_of_le (by rw [World.size_alloc]; exact Nat.lt_succ_self _) hb2.size
  have v0 : (w2.alloc (.cells #[.int .i64 a1, .int .i64 a2] 50)).cell? ⟨w2.heap.size, 0, none⟩ = some (.int .i64 a1) := by rw [World.cell?_alloc_at _ _ _ _ rfl]; rfl
  have v1 : (w2.alloc (.cells #[.int .i64 a1, .int .i64 a2] 50)).cell? ⟨w2.heap.size, 1, none⟩ = some (.int .i64 a2) := by rw [World.cell?_alloc_at _ _ _ _ rfl]; rfl
  clear he1 hen hS0 hb2 HXY HPa c2 HM HK
  generalize w1.heap.size = b at *
  go_upto_if 34 with fail
  generalize w2.alloc (.cells #[.int .i64 a1, .int .i64 a2] 50) = w3 at *
  generalize w2.heap.size = b2 at *
  go_cut [] (fun wx => StR w wx P B b K z (n + 1) 0 N ⟨(opJ tk 2 : Nat), 0, 0, x, y⟩)
  case first =>
    rcases HE1.out with ⟨h1, h2, h3, h4⟩ | ⟨h1, h2, h3, h4⟩
    · subst h1 h2 h3
      have hnd := HS2.out.nd
      have d0 := hnd.c0
      have d3 := hnd.c3
      have d4 := hnd.c4
      have f0 := hnd.fr 0
      have f3 := hnd.fr 3
      have f4 := hnd.fr 4
      have HH := Lib.hid h4
      dsimp only at d0 d3 d4
      clear hnd h4
      have hne : b ≠ b2 := by omega
      have v0' : (w3.setCell ⟨b, 0, none⟩ (.int .i64 1)).cell? ⟨b2, 0, none⟩ = some (.int .i64 x) := (cell_far (.inl hne)).trans v0
      have v1' : (w3.setCell ⟨b, 0, none⟩ (.int .i64 1)).cell? ⟨b2, 1, none⟩ = some (.int .i64 y) := (cell_far (.inl hne)).trans v1
      go_wp2_with fail
      go_meet
      rw [HH.out]
      exact ((HS2.out.setOp 1).setX _).setY _
    · subst h1 h2 h3
      have HH := Lib.hid h4
      clear h4
      go_wp2_with fail
      go_meet
      rw [HH.out]
      exact HS2.out
  case rest =>
    have HS3 := Lib.hid hcut
    clear hcut HS2 HE1 v0 v1 hvb c2
    go_wp2_with fail
    go_loopw [10] (fun vo wx => ∃ j : Nat, 2 ≤ j ∧ j ≤ 18 ∧ vo = .int .i64 (j : Nat) ∧ StR w wx P B b K z (n + 1) 0 N ⟨(opJ tk j : Nat), 0, 0, x, y⟩) (fun vo _ => 18 - (RowKit.intOf vo).toNat)
    case atStart => exact ⟨2, by omega, by omega, rfl, HS3.out⟩
    case round =>
      obtain ⟨j, hj2, hj, rfl, hst⟩ := hrel
      have HSr := Lib.hid hst
      clear hst HS3
      by_cases hlt : j < 18
      · have p1 : (j : Int) < 18 := by omega
        have HW := Lib.hid (fun w' => rword_any j hlt w')
        have HHit := Lib.hid (opJ_hit (w := tk) hj2)
        have HMiss := Lib.hid (opJ_miss (w := tk) (j := j))
        have HJ := Lib.hid hlt
        generalize wdN j = wd at *
        clear hlt
        go_wp2_with fail
        refine (HW.out _).mono ?_
        rintro en w4 ⟨rfl, hb4⟩
        have HS4 := Lib.hid (HSr.out.below hb4)
        have d0 := HS4.out.nd.c0
        have f0 := HS4.out.nd.fr 0
        dsimp only at d0
        clear hb4 HW
        by_cases hw : wd = tk
        · subst hw
          have HH := Lib.hid (HHit.out rfl)
          go_wp2_with fail
          go_roundw
          case rel => exact ⟨j + 1, by omega, HJ.out, by go_num, by rw [HH.out]; exact HS4.out.setOp _⟩
          case measure => have := HJ.out; simp [RowKit.intOf]; omega
        · have HH := Lib.hid (HMiss.out hw)
          have hw2 : (wd == tk) = false := beq_false_of_ne hw
          clear d0
          go_wp2_with fail
          go_roundw
          case rel => exact ⟨j + 1, by omega, HJ.out, by go_num, by rw [HH.out]; exact HS4.out⟩
          case measure => have := HJ.out; simp [RowKit.intOf]; omega
      · obtain rfl : j = 18 := by omega
        rw [opJ_end] at HSr
        have hk := opW_lt tk
        have HBad : Hid (∀ e', e' ≠ 0 → (takeM ⟨N, (d : Int) - 1, s :: D⟩ tk).1 = e' → Wr (K.map Prod.snd) n e') := Lib.hid (fun e' h1 h2 => by
          have := HG.out.bad hq' (by rw [HWn.out, h2]; exact h1)
          rw [HWn.out, h2] at this
          exact this)
        have HNx : Hid ((takeM ⟨N, (d : Int) - 1, s :: D⟩ tk).1 = 0 → Gd (K.map Prod.snd) (n + 1) (takeM ⟨N, (d : Int) - 1, s :: D⟩ tk).2) := Lib.hid (fun h2 => by
          have := HG.out.next hq' (by rw [HWn.out, h2])
          rw [HWn.out] at this
          exact this)
        rw [HF.out, HN.out] at HBad HNx
        clear HF HN HG HWn hlt hj hj2
        generalize opW tk = k at *
        have d0 := HSr.out.nd.c0
        have c2 := HSr.out.m.cells.2.1
        have f2 := HSr.out.m.cells.2.2.1 2
        have p1 : ¬ (18 : Int) < 18 := by omega
        dsimp only at d0
        have hk0 := HK0.out
        have hks := HKs.out
        have hdp := HDp.out
        have e0 : ¬ (k : Int) = 0 := by omega
        have e1 : ((k : Int) == 0) = false := beq_false_of_ne e0
        have HSo := Lib.hid (fun w' => rsort_any (k : Int) w')
        rw [sort_row hk hk0, hks] at HSo
        obtain ⟨vk0, vt0, hrk⟩ := HSr.out.m
        obtain ⟨av, cv, rfl⟩ := hrk.ht.slice
        have c3 := hrk.c3
        clear hrk
        generalize [sB s] = l1 at *
        have HF0 := Lib.hid (fld_begin hk (by
          have := HNx.out (by rw [if_neg (fun h => h.elim hk0 (fun q => q hks)), begM, if_neg (by dsimp only; omega)])
          rwa [if_neg (fun h => h.elim hk0 (fun q => q hks)), begM, if_neg (by dsimp only; omega)] at this))
        have h12 : d ≤ 12 := by omega
        have HIH := Lib.hid (IH h12)
        have i1 : ¬ (64 : Int) ≤ (N.length : Int) := by omega
        have i2 : ¬ (12 : Int) < (d : Int) := by omega
        have hNl : N.length < 64 := by omega
        have hWl : (K.map Prod.snd).length = K.length := List.length_map ..
        clear HBad HNx IH hdp hks HK0 HKs HDp
        go_wp2_with fail
        refine (HSo.out _).mono ?_
        rintro en w5 ⟨rfl, rfl⟩
        clear HSo
        go_upto_region 17 with fail
        clear c2 c3 i1 i2 f2 hk0 e0 e1
        have hc := HC.out
        have b2 : ((k : Int) == 2) = false := by rw [hc]; rfl
        have b16 : ((k : Int) == 16) = false := by rw [hc]; rfl
        have b17 : ((k : Int) == 17) = true := by rw [hc]; rfl
        have b10 : ((k : Int) == 10) = false := by rw [hc]; rfl
        have b14 : ((k : Int) == 14) = false := by rw [hc]; rfl
        have r0 := remF_key ⟨k, hk⟩
        dsimp only at r0
        rw [if_pos (by omega)] at r0
        have r1 := remF_name ⟨k, hk⟩
        dsimp only at r1
        rw [if_neg (by omega)] at r1
        have r2 := remF_day ⟨k, hk⟩
        dsimp only at r2
        rw [if_neg (by omega)] at r2
        have r3 := remF_unt ⟨k, hk⟩
        dsimp only at r3
        rw [if_pos (by omega)] at r3
        have HKy := Lib.hid (rkey_fld _ B K HTk.out z (n + 1) 0 k D ((d : Int) - 1) N _ wr HSr.out.m HF0.out r0)
        have HR := Lib.hid (And.intro r1 (And.intro r2 r3))
        clear r0 r1 r2 r3 hc HC
        go_wp2_with fail
        refine (HKy.out).mono ?_
        rintro en w6 ⟨v, n', e', rfl, hm, hk6, hf⟩
        have HS6 := Lib.hid (HSr.out.call hm hk6)
        have HF6 := Lib.hid hf
        have d0 := HS6.out.nd.c0
        have d1 := HS6.out.nd.c1
        have f1 := HS6.out.nd.fr 1
        dsimp only at d0 d1
        clear hm hk6 hf HKy
        have HS7 := Lib.hid (HS6.out.setA v)
        have HF := Lib.hid ((HF6.out.same HR.out.1).same HR.out.2.1)
        go_upto_region 19 with fail
        clear d0 d1 f1 HS6 HF6
        generalize w6.setCell ⟨b, 1, none⟩ (.int .i64 v) = w7 at *
        have HKy := Lib.hid (runt_fld _ B K HTk.out z n' e' k D ((d : Int) - 1) N _ w7 HS7.out.m HF.out HR.out.2.2)
        have d0 := HS7.out.nd.c0
        dsimp only at d0
        clear HR HF
        go_wp2_with fail
        refine (HKy.out).mono ?_
        rintro en w8 ⟨v2, n2, e2, rfl, hm, hk6, hf⟩
        have HS8 := Lib.hid (HS7.out.call hm hk6)
        have HF8 := Lib.hid hf
        have d1 := HS8.out.nd.c2
        have f1 := HS8.out.nd.fr 2
        dsimp only at d1
        clear hm hk6 hf HKy HS7 d0
        have HS9 := Lib.hid (HS8.out.setB v2)
        go_upto_region 33 with fail
        clear d1 f1 HS8
        generalize w8.setCell ⟨b, 2, none⟩ (.int .i64 v2) = w9 at *
        have HS4 : Hid (StR w w9 P B b K z n2 e2 N ⟨(k : Int), v, v2, x, y⟩) := HS9
        have HF4 : Hid (FldS (K.map Prod.snd) k D ((d : Int) - 1) N 4 n2 e2 ⟨(k : Int), v, v2, x, y⟩) := HF8
        obtain ⟨vk1, vt1, hr1⟩ := HS4.out.m
        obtain ⟨av1, cv1, rfl⟩ := hr1.ht.slice
        have HR1 := Lib.hid hr1
        have c3 := hr1.c3
        have f3 := hr1.fr 3
        have hown := hr1.ht
        have hBlt := hr1.blt
        have hbt := Lib.hid hr1.bt
        clear hr1
        have d0 := HS4.out.nd.c0
        have d1 := HS4.out.nd.c1
        have d2 := HS4.out.nd.c2
        have d3 := HS4.out.nd.c3
        have d4 := HS4.out.nd.c4
        dsimp only at d0 d1 d2 d3 d4
        have HKd := Lib.hid (HF4.out.kids hk)
        have hn4 : n2 ≤ 3001 := by have := HF4.out.len; omega
        clear HF4
        go_upto_region 33 with fail
        go_cut [] (fun wx => StR w wx P B b K z n2 e2 (N ++ [⟨(k : Int), v, v2, x, y⟩]) ⟨(k : Int), v, v2, x, y⟩)
        case first =>
          unfold OwnN at hown
          have nB : some B ≠ (Value.slice av1 N.length cv1).ownBlock := fun e => (hbt.out B e.symm).1 rfl
          have h63 : N.length + 1 ≤ maxLen := by unfold maxLen; omega
          have hby : (N.length + 1) * 40 ≤ 140737488355328 := by omega
          have hbs : 0 ≤ (w9.drew.alloc (.cells #[.int .i64 (k : Int), .int .i64 v, .int .i64 v2, .int .i64 x, .int .i64 y] 52)).heap.size := Nat.zero_le _
          obtain ⟨i0, hi0, hz0, hz1, hz2⟩ := info_parts infoND
          have hn1 : Below w9.heap.size w9 (w9.alloc (.cells #[.int .i64 (k : Int), .int .i64 v, .int .i64 v2, .int .i64 x, .int .i64 y] 52)).drew := (newB w9 _).drew
          have f1a := keepT (newB w9 (.cells #[.int .i64 (k : Int), .int .i64 v, .int .i64 v2, .int .i64 x, .int .i64 y] 52)) c3
          have hf1 : (w9.alloc (.cells #[.int .i64 (k : Int), .int .i64 v, .int .i64 v2, .int .i64 x, .int .i64 y] 52)).drew.frozen? ⟨B, 3, none⟩ = false := (hn1.frozen (p := ⟨B, 3, none⟩) hBlt).trans f3
          go_region_law
            ((refine step_append_lies _ (by rfl) _ _ _ (by rfl) 0 52 i0 _ 5 40 Tryz.underlying23 hi0 hz0 hz1 hz2 rfl (by omega) (.slice av1 N.length cv1) N.length (ndR N) (by rfl) (World.ownsRow.alloc (World.ownsRow.drew hown) _) ⟨w9.heap.size, 0, none⟩ 1 1 [.int .i64 (k : Int), .int .i64 v, .int .i64 v2, .int .i64 x, .int .i64 y] (by rfl) (by rfl) (World.news_of_block (cs := #[.int .i64 (k : Int), .int .i64 v, .int .i64 v2, .int .i64 x, .int .i64 y]) (t := 52) (fr := (0, 0)) (heap_alloc_new w9.drew _)) (by simp [Value.oneCell']) (by omega) h63 hby hbs (w9.heap.size + 1) (by simp) ?_
              intro g cap2 w1 hown1 hgrow hat hlt2
              have s1 : w1.cell? ⟨B, 3, none⟩ = some (.slice av1 N.length cv1) := by rw [hgrow.cell_far ⟨B, 3, none⟩ (by simp; omega) nB]; exact keepT hn1 c3
              have e2 : w1.frozen? ⟨B, 3, none⟩ = false := by rw [hgrow.frozen_far ⟨B, 3, none⟩ (by simp; omega) nB]; exact hf1))
          all_goals
            have hnw : OwnN w1 0 (.slice (some ⟨g, 0, none⟩) (N.length + 1) cap2) (N ++ [⟨(k : Int), v, v2, x, y⟩]) := by
              unfold OwnN
              rw [show (N ++ [(⟨(k : Int), v, v2, x, y⟩ : Nd)]).length = N.length + 1 by simp, ndR_app, show ndR [(⟨(k : Int), v, v2, x, y⟩ : Nd)] = ndL ⟨(k : Int), v, v2, x, y⟩ by simp [ndR]]
              exact hown1
            have hpn := RdK.pushT (HR1.out.keep hn1) hgrow hnw (by
              rcases hat with e | e
              · exact .inl e
              · right
                rw [e]
                show (w9.alloc _).heap.size ≤ _
                simp)
            have HQ := Lib.hid (HS4.out.call hpn.1 ((KpP.of hn1 HS4.out.m.lt).trans hpn.2))
            clear hpn hnw hown1 hgrow hat hlt2 s1 e2 f1a hf1
            go_wp2_with fail
            go_meet
            exact HQ.out
        case rest =>
          have HS5 := Lib.hid hcut
          clear hcut HS4 HR1 c3 f3 hown hBlt hbt d0 d1 d2 d3 d4
          generalize wc = wE at *
          have d0 := HS5.out.nd.c0
          dsimp only at d0
          have HKi := Lib.hid (fun w' => rkids_any (k : Int) w')
          rw [kids_row hk] at HKi
          have HRM := Lib.hid HS5.out.out
          have HKP := Lib.hid HS5.out.kp
          obtain ⟨ks, hks⟩ : ∃ ks, ks = kdT.getD k [] := ⟨_, rfl⟩
          have hkl : ks.length ≤ 4 := by rw [hks]; exact cn_all k hk
          have hka : ∀ i, i < ks.length → (⟨(ks.map sB).toArray⟩ : ByteArray).extract i (i + 1) = ⟨[sB (ks.getD i 0)].toArray⟩ ∧ (ks.getD i 0 = 1 ∨ ks.getD i 0 = 2) := fun i hi => by
            have := kid_at ⟨k, hk⟩ ⟨i, by omega⟩ (by rw [← hks]; exact hi)
            dsimp only at this
            rwa [← hks] at this
          rw [← hks] at HKi HKd
          obtain ⟨kb, hkb⟩ : ∃ kb : ByteArray, kb = ⟨(ks.map sB).toArray⟩ := ⟨_, rfl⟩
          have hkz : kb.size = ks.length := by rw [hkb]; show (ks.map sB).toArray.size = _; simp
          rw [← hkb] at HKi hka
          have HKA := Lib.hid hka
          have HZ := Lib.hid hkz
          clear hka hkb hks HS5 hkz
          go_wp2_with fail
          refine (HKi.out _).mono ?_
          rintro en w6 ⟨rfl, hb6⟩
          have HM6 := Lib.hid (HRM.out.keep hb6)
          have HP6 := Lib.hid (HKP.out.trans (KpP.of hb6 HRM.out.lt))
          clear hb6 HKi HRM HKP d0
          go_wp2_with fail
          go_loopw [14] (fun vi wx => ∃ (i n' e : Nat) (T : List Nd), i ≤ ks.length ∧ vi = .int .i64 (i : Nat) ∧ RdM wx P B K z n' e T ∧ KpP P w wx ∧ KidS (K.map Prod.snd) ks D ((d : Int) - 1) i n' e T) (fun vi _ => ks.length - (RowKit.intOf vi).toNat)
          case atStart => exact ⟨0, n2, e2, _, Nat.zero_le _, rfl, HM6.out, HP6.out, HKd.out⟩
          case round =>
            obtain ⟨i, n5, e5, T5, hi, rfl, hm, hk5, hkd⟩ := hrel
            have HM := Lib.hid hm
            have HP := Lib.hid hk5
            have HD := Lib.hid hkd
            have hn5 : n5 ≤ 3001 := by have := TermS.len hkd; omega
            clear hm hk5 hkd HM6 HP6 HKd
            by_cases hlt : i < ks.length
            · have p0 : (0 : Int) ≤ (i : Int) := by omega
              have p1 : (i : Int) < (kb.size : Int) := by have := HZ.out; omega
              obtain ⟨s5, hs5⟩ : ∃ s5, s5 = ks[i] := ⟨_, rfl⟩
              have hgd : ks.getD i 0 = s5 := by rw [hs5, List.getD_eq_getElem?_getD, List.getElem?_eq_getElem hlt]; rfl
              have hx := HKA.out i hlt
              rw [hgd] at hx
              have HX1 := Lib.hid hx.1
              have HOp : Hid (e5 = 0 → TermS (K.map Prod.snd) (s5 :: (bhK (ks.drop (i + 1)) 4 ++ D)) ((d : Int) - 1 + 1) (n5 + 1) (if (K.map Prod.snd).getD n5 [] = [if i = 0 then 40 else 44] then 0 else 13) T5) := Lib.hid (by
                intro he
                subst he
                rw [hs5]
                exact KidS.open_ hlt HD.out)
              have HBd : Hid (e5 ≠ 0 → TermS (K.map Prod.snd) (s5 :: (bhK (ks.drop (i + 1)) 4 ++ D)) ((d : Int) - 1 + 1) n5 e5 T5) := Lib.hid (fun he => KidS.bad HD.out he)
              have HTr := Lib.hid (fun w' n' e' T' h ht => rterm_trm HIH.out P B K HTk.out z n' e' s5 hx.2 (bhK (ks.drop (i + 1)) 4 ++ D) T' w' h ht)
              have HLt := Lib.hid hlt
              clear hgd hx hs5 hlt
              go_upto_if 151 with fail
              go_cut [] from 144 to 164 (fun wx => ∃ n' e', RdM wx P B K z n' e' T5 ∧ KpP P w wx ∧ TermS (K.map Prod.snd) (s5 :: (bhK (ks.drop (i + 1)) 4 ++ D)) ((d : Int) - 1 + 1) n' e' T5)
              case first =>
                by_cases i0 : i = 0
                · subst i0
                  have HMk := Lib.hid (rmark_trm P B K z n5 e5 T5 40 (by omega) wr HM.out HOp.out HBd.out)
                  go_wp2_with fail
                  refine (HMk.out).mono ?_
                  rintro en w7 ⟨rfl, n', e', h1, h2, h3⟩
                  have H1 := Lib.hid h1
                  have H2 := Lib.hid (HP.out.trans h2)
                  have H3 := Lib.hid h3
                  clear h1 h2 h3 HMk
                  go_wp2_with fail
                  go_meet
                  exact ⟨n', e', H1.out, H2.out, H3.out⟩
                · rw [if_neg i0] at HOp
                  have b0 : ((i : Int) == 0) = false := beq_false_of_ne (by omega)
                  have HMk := Lib.hid (rmark_trm P B K z n5 e5 T5 44 (by omega) wr HM.out HOp.out HBd.out)
                  clear i0
                  go_wp2_with fail
                  refine (HMk.out).mono ?_
                  rintro en w7 ⟨rfl, n', e', h1, h2, h3⟩
                  have H1 := Lib.hid h1
                  have H2 := Lib.hid (HP.out.trans h2)
                  have H3 := Lib.hid h3
                  clear h1 h2 h3 HMk
                  go_wp2_with fail
                  go_meet
                  exact ⟨n', e', H1.out, H2.out, H3.out⟩
              case rest =>
                obtain ⟨n6, e6, h1, h2, h3⟩ := hcut
                have HTr2 := Lib.hid (HTr.out _ n6 e6 T5 h1 h3)
                have H2 := Lib.hid h2
                clear h1 h2 h3 HTr HOp HBd HD HM HP
                generalize wc = wF at *
                have q0 : (i : Int) ≤ (i : Int) + 1 := by omega
                have q1 : (i : Int) + 1 ≤ (kb.size : Int) := by omega
                have q2 : ((i : Int) + 1).toNat = i + 1 := by omega
                go_wp2_with fail
                rw [HX1.out]
                refine (HTr2.out).mono ?_
                rintro en w7 ⟨rfl, n', e', T', h1, h2, h3⟩
                have H1 := Lib.hid h1
                have H3 := Lib.hid (H2.out.trans h2)
                have H4 := Lib.hid (KidS.next (i := i) h3)
                clear h1 h2 h3 HTr2 H2
                go_wp2_with fail
                go_roundw
                case rel => exact ⟨i + 1, n', e', T', HLt.out, by go_num, H1.out, H3.out, H4.out⟩
                case measure => have := HLt.out; simp [RowKit.intOf]; omega
            · have hie : i = ks.length := by omega
              subst hie
              have p1 : ¬ (ks.length : Int) < (kb.size : Int) := by have := HZ.out; omega
              by_cases hz : ks.length = 0
              · have p2 : ¬ 0 < (kb.size : Int) := by have := HZ.out; omega
                have HE : Hid (TermS (K.map Prod.snd) D ((d : Int) - 1) n5 e5 T5) := Lib.hid (by
                  have hk0 : ks = [] := List.length_eq_zero_iff.1 hz
                  have := HD.out
                  subst hk0
                  exact this.noKids rfl)
                clear hlt hz
                go_wp2_with fail
                go_end0
                exact ⟨rfl, n5, e5, T5, HM.out, HP.out, HE.out⟩
              · have p2 : 0 < (kb.size : Int) := by have := HZ.out; omega
                have HMk := Lib.hid (rmark_trm P B K z n5 e5 T5 41 (by omega) wr HM.out (D := D) (o := (d : Int) - 1) (fun he => by have := HD.out; rw [he] at this; exact KidS.close this hz) (fun he => KidS.bad HD.out he))
                clear hlt hz
                go_wp2_with fail
                refine (HMk.out).mono ?_
                rintro en w7 ⟨rfl, n', e', h1, h2, h3⟩
                have H1 := Lib.hid h1
                have H2 := Lib.hid (HP.out.trans h2)
                have H3 := Lib.hid h3
                clear h1 h2 h3 HMk
                go_wp2_with fail
                go_end0
                exact ⟨rfl, n', e', T5, H1.out, H2.out, H3.out⟩

end Go.Proofs.YtdmdgoeacafpiaaGreatDoor

/-
  chattellaw11.AgendaMoves: its walk.
-/
import Derived.Test.YtkfcaafjnolhgaaAjA
import Derived.Test.YtkfcaafjnolhgaaAhO
import Derived.Deep.Cut
namespace Go.Proofs.Ytkfcaafjnolhgaa
open Go.RowKit Go.Lib Go.Maps Go.Sort Go.Shelf
set_option linter.unusedVariables false
set_option linter.unusedSimpArgs false

/-- The cells of items in a row. -/
def ItC (w : World) (g o : Nat) (L : List It) : Prop := ∀ j, j < L.length → w.cell? ⟨g, o + j * 3, none⟩ = some (.int .i64 (L.getD j default).d) ∧ w.cell? ⟨g, o + j * 3 + 1, none⟩ = some (.int .i64 (L.getD j default).no) ∧ w.cell? ⟨g, o + j * 3 + 2, none⟩ = some (.int .i64 (L.getD j default).tag)
theorem OwnX.its {w : World} {ty : TypeId} {base n cap : Nat} {a : Option Addr} {L : List It} (h : OwnX itL 3 ty w base (.slice a n cap) L) (h0 : 0 < L.length) : ∃ g o, a = some ⟨g, o, none⟩ ∧ n = L.length ∧ L.length ≤ cap ∧ cap ≤ 9223372036854775807 ∧ ItC w g o L := by
  rcases h.row (E := itL) (k := 3) itL_len with ⟨e, _⟩ | ⟨_, g, o, cap', h1, h2, h3, h4⟩
  · rw [e] at h0; exact absurd h0 (Nat.lt_irrefl _)
  · injection h1 with e1 e2 e3
    subst e1 e2 e3
    exact ⟨g, o, rfl, rfl, h2, h3, fun j hj => ⟨h4 j hj 0 _ (by omega) rfl, h4 j hj 1 _ (by omega) rfl, h4 j hj 2 _ (by omega) rfl⟩⟩
theorem ItC.keep {w w' : World} {g o : Nat} {L : List It} (h : ItC w g o L) (hb : Below w.heap.size w w') : ItC w' g o L := fun j hj => ⟨keepF hb (h j hj).1, keepF hb (h j hj).2.1, keepF hb (h j hj).2.2⟩
theorem ItC.off {w w' : World} {g o : Nat} {L : List It} {F : Nat → Prop} (h : ItC w g o L) (ho : Off F w w') (hn : ¬ F g) : ItC w' g o L := fun j hj => ⟨ho.cell (h j hj).1 hn, ho.cell (h j hj).2.1 hn, ho.cell (h j hj).2.2 hn⟩
def kB (p r : Nat) : Nat := if r ≤ p then r else r + 1

set_option maxRecDepth 100000 in
set_option maxHeartbeats 16000000 in
theorem moves11_walk (w : World) (v : Value) (l : List Cl) (hv : SlCl w v l) (no day : Int) (wno : I64 no) :
    Calls Try.prog 8 #[v, .int .i64 no, .int .i64 day] w fun e w' => e = .returned (.bool true) ∧ Below w.heap.size w w' := by
  obtain ⟨va, vc, rfl⟩ := hv.slice
  have HN := Lib.hid (anew_any w)
  have HAw := Lib.hid (fun w' => awake11_any w')
  have HV := Lib.hid hv
  have HI64 := Lib.hid wno
  clear hv wno
  by_cases hl : l.length ≤ 60
  · have nl : ¬ (60 : Int) < (l.length : Int) := by omega
    go_enter Try.func8, Try.ntmps8
    go_wp2_with fail
    refine HN.out.mono ?_
    rintro e w1 ⟨a, q, bm, rfl, hA, hb⟩
    have HA := Lib.hid hA
    have HB := Lib.hid hb
    clear hA hb HN
    go_wp2_with fail
    go_loopw [8] (fun vi wr => ∃ (i : Nat) (lv : Value), i ≤ l.length ∧ vi = .int .i64 (i : Nat) ∧ AgV wr w.heap.size a q bm lv (runZ (l.take i)).1 (runZ (l.take i)).2 ∧ Below w.heap.size w wr)
      (fun vi _ => l.length - (RowKit.intOf vi).toNat)
    case atStart => exact ⟨0, _, Nat.zero_le _, rfl, HA.out, HB.out⟩
    case round =>
      obtain ⟨i, lv, hi, rfl, hAi, hbi⟩ := hrel
      by_cases hlt : i < l.length
      · have p0 : (0 : Int) ≤ (i : Int) := by omega
        have p1 : (i : Int) < (l.length : Int) := by omega
        obtain ⟨g, o, hva, _, hc1, hc2, k0, k1, k2⟩ := (HV.out.keep hbi).at hlt
        subst hva
        have hle := runZ_le (l.take i)
        rw [List.length_take] at hle
        have HDo := Lib.hid (does_any wr hAi (by omega) (by omega) (l.getD i default).k (l.getD i default).d (l.getD i default).t (HV.out.2 i hlt).2.2)
        have HNx := Lib.hid (runZ_next hlt)
        have HAi := Lib.hid hAi
        have HBi := Lib.hid hbi
        have HLt := Lib.hid hlt
        generalize (l.getD i default).k = ck at *
        generalize (l.getD i default).d = cd at *
        generalize (l.getD i default).t = ct at *
        generalize hz : doZ ck cd ct (runZ (l.take i)).1 (runZ (l.take i)).2 = z at *
        unfold itV at HDo
        clear hAi hbi hlt hle hz
        go_wp2_with fail
        refine HDo.out.mono ?_
        rintro e w2 ⟨rfl, lv2, hA2, ho, hf⟩
        have HB2 := Lib.hid (HBi.out.trans (HAi.out.sb (Nat.le_refl _) ho HBi.out.size))
        have HA2 := Lib.hid hA2
        clear hA2 ho hf HDo
        go_wp2_with fail
        go_roundw
        case rel => exact ⟨i + 1, lv2, HLt.out, by go_num, by rw [HNx.out]; exact HA2.out, HB2.out⟩
        case measure => have := HLt.out; simp [RowKit.intOf]; omega
      · have hie : i = l.length := by omega
        subst hie
        rw [List.take_length] at hAi
        have p1 : ¬ (l.length : Int) < (l.length : Int) := by omega
        have hle := runZ_le l
        have HIt := Lib.hid (items_any hAi (by omega))
        have HDa := Lib.hid (das_run l)
        have HAi := Lib.hid hAi
        have HBi := Lib.hid hbi
        clear hAi hbi
        go_wp2_with fail
        refine HIt.out.mono ?_
        rintro e w2 ⟨vs, rfl, ho, hb2⟩
        have HO := Lib.hid ho
        obtain ⟨sa, sc, rfl⟩ := ho.slice
        have HB2 := Lib.hid (HBi.out.trans (hb2.mono HBi.out.size))
        have HA2 := Lib.hid (HAi.out.keep hb2)
        have HFp : Hid (∀ j, (Value.slice sa (runZ l).1.length sc).ownBlock = some j → ¬ FpA a q bm lv j) := Lib.hid (fun j e c => by have h1 := (HO.out.lt j e).1; have h2 := HAi.out.hi _ c; omega)
        have nL : ((runZ l).1.length : Int) ≤ 60 := by omega
        clear ho HIt hb2 HAi HBi
        generalize (runZ l).1 = L at *
        generalize (runZ l).2 = N at *
        generalize wr.heap.size = B0 at *
        go_wp2_with fail
        go_loopw [10, 11] (fun vo vi wx => ∃ i : Nat, i ≤ L.length ∧ vi = .int .i64 (i : Nat) ∧ vo = .int .i64 (ownF L no i) ∧ wx = w2) (fun _ vi _ => L.length - (RowKit.intOf vi).toNat)
        case atStart => exact ⟨0, Nat.zero_le _, rfl, rfl, rfl⟩
        case round =>
          obtain ⟨i, hi, rfl, rfl, hw⟩ := hrel
          subst hw
          by_cases hlt : i < L.length
          · have i0 : (0 : Int) ≤ (i : Int) := by omega
            have i1 : (i : Int) < (L.length : Int) := by omega
            have HLt := Lib.hid hlt
            obtain ⟨g, o, ha, _, hc1, hc2, hC⟩ := HO.out.its (by omega)
            subst ha
            have y1 := (hC i hlt).2.1
            have hof : ownF L no (i + 1) = if (L.getD i default).no = no then (i : Int) else ownF L no i := rfl
            by_cases hy : (L.getD i default).no = no
            · rw [if_pos hy] at hof
              have HF := Lib.hid hof
              rw [hy] at y1
              have b1 : (no == no) = true := by simp
              clear hC hlt hi hof hy
              generalize ownF L no i = oi at *
              go_wp2_with fail
              go_roundw
              case rel => exact ⟨i + 1, HLt.out, by go_num, by rw [HF.out], by first | rfl | trivial⟩
              case measure => have := HLt.out; simp [RowKit.intOf]; omega
            · rw [if_neg hy] at hof
              have HF := Lib.hid hof
              have b1 : ((L.getD i default).no == no) = false := beq_false_of_ne hy
              generalize (L.getD i default).no = yn at *
              clear hC hlt hi hof hy
              generalize ownF L no i = oi at *
              go_wp2_with fail
              go_roundw
              case rel => exact ⟨i + 1, HLt.out, by go_num, by rw [HF.out], by first | rfl | trivial⟩
              case measure => have := HLt.out; simp [RowKit.intOf]; omega
          · obtain rfl : i = L.length := by omega
            have i1 : ¬ (L.length : Int) < (L.length : Int) := by omega
            clear hlt hi hle
            have q0 : ((L.length : Int) == (L.length : Int)) = true := by simp
            rcases find_no (L := L) (no := no) with ⟨x, _, hx, hxn⟩ | ⟨_, hno⟩
            · subst hxn
              obtain ⟨p, c, M⟩ := mov_at HA2.out.sr HA2.out.nos hx day
              have HM := Lib.hid M
              rw [M.own L.length (Nat.le_refl _), if_pos M.pl]
              have hp0 : (0 : Int) ≤ (p : Int) := by omega
              by_cases hd : 0 ≤ day ∧ day ≤ 73048
              · have hpl := M.pl
                have HMv := Lib.hid (amove_ok wr HA2.out (by omega) hx HI64.out day hd)
                obtain ⟨g, o, ha, _, hc1, hc2, hC⟩ := HO.out.its (by omega)
                subst ha
                have HC := Lib.hid hC
                have HGf := Lib.hid (HFp.out g rfl)
                have HXd := Lib.hid (HDa.out x hx)
                clear M hd hx hC hpl HO HFp HDa
                go_wp2_with fail
                refine HMv.out.mono ?_
                rintro e w4 ⟨rfl, hA4, ho4⟩
                have HA4 := Lib.hid hA4
                have HB4 := Lib.hid (HB2.out.trans (HA2.out.sb (Nat.le_refl _) ho4 HB2.out.size))
                have HC4 := Lib.hid (HC.out.off ho4 HGf.out)
                have HIt := Lib.hid (items_any HA4.out (by rw [HM.out.len]; omega))
                clear hA4 ho4 HMv HC HA2 HB2
                generalize hLL : inI ⟨day, x.no, x.tag⟩ (noI x.no L) = L2 at *
                have HLL := Lib.hid hLL
                clear hLL
                go_wp2_with fail
                refine HIt.out.mono ?_
                rintro e w5 ⟨vs, rfl, ho, hb5⟩
                have HO5 := Lib.hid ho
                obtain ⟨ta, tc, rfl⟩ := ho.slice
                have HB5 := Lib.hid (HB4.out.trans (hb5.mono HB4.out.size))
                have HA5 := Lib.hid (HA4.out.keep hb5)
                have HC5 := Lib.hid (HC4.out.keep hb5)
                obtain ⟨g2, o2, ha2, _, hd1, hd2, hD⟩ := HO5.out.its (by rw [HM.out.len]; have := HM.out.pl; omega)
                subst ha2
                rw [HM.out.len] at hd1
                have HD5 := Lib.hid hD
                clear ho HIt hb5 HA4 HB4 HC4 hD HO5
                rw [HM.out.len]
                go_wp2_with fail
                go_loopw [14, 15, 16] (fun vk vs vi wx => ∃ i : Nat, i ≤ L.length ∧ vi = .int .i64 (i : Nat) ∧ vs = .int .i64 (if c < i then 1 else 0) ∧ vk = .int .i64 (kB p (rF c i) : Nat) ∧ Below w5.heap.size w5 wx) (fun _ _ vi _ => L.length - (RowKit.intOf vi).toNat)
                case atStart => exact ⟨0, Nat.zero_le _, rfl, by rw [if_neg (Nat.not_lt_zero _)], by unfold kB rF; rw [if_neg (Nat.not_lt_zero _), if_pos (Nat.zero_le _)]; rfl, Below.refl _ _⟩
                case round =>
                  obtain ⟨i, hi, rfl, rfl, rfl, hbr⟩ := hrel
                  have HBr := Lib.hid hbr
                  clear hbr
                  by_cases hlt : i < L.length
                  · have i0 : (0 : Int) ≤ (i : Int) := by omega
                    have i1 : (i : Int) < (L.length : Int) := by omega
                    have HLt := Lib.hid hlt
                    obtain ⟨y0, y1, y2⟩ := (HD5.out.keep HBr.out) i (by rw [HM.out.len]; exact hlt)
                    by_cases hic : i = c
                    · subst hic
                      rw [HM.out.atc] at y0 y1 y2
                      dsimp only at y0 y1 y2
                      obtain ⟨z0, z1, z2⟩ := (HC5.out.keep HBr.out) p HM.out.pl
                      rw [HM.out.atp] at z0 z1 z2
                      have hpl := HM.out.pl
                      have p1 : (p : Int) < (L.length : Int) := by omega
                      have b1 : (x.no == x.no) = true := by simp
                      have b2 : (day != day) = false := by simp
                      have b3 : (x.tag != x.tag) = false := by simp
                      rw [if_neg (Nat.lt_irrefl _)]
                      have HK : Hid (kB p (rF i (i + 1)) = kB p (rF i i)) := Lib.hid (by unfold rF; rw [if_pos (Nat.lt_succ_self _), if_neg (Nat.lt_irrefl _)]; rfl)
                      generalize kB p (rF i i) = k at *
                      clear hlt hi hpl
                      go_wp2_with fail
                      go_quiet (fail)
                      go_wp2_with fail
                      go_roundw
                      case rel => exact ⟨i + 1, HLt.out, by go_num, by rw [if_pos (Nat.lt_succ_self _)], by rw [HK.out], onF HBr.out (below_drewA _ _)⟩
                      case measure => have := HLt.out; simp [RowKit.intOf]; omega
                    · have hne := HM.out.ne i hlt hic
                      have heq := HM.out.eq i hlt hic
                      have hcl := HM.out.cl
                      have hpl := HM.out.pl
                      have hr : rF c (i + 1) = rF c i + 1 := by
                        unfold rF
                        by_cases h : c < i
                        · rw [if_pos h, if_pos (by omega)]; omega
                        · rw [if_neg h, if_neg (by omega)]
                      have hr2 : rF c i + 1 < L.length := by unfold rF; split <;> omega
                      have hs : (if c < i + 1 then (1 : Int) else 0) = if c < i then 1 else 0 := by
                        by_cases h : c < i
                        · rw [if_pos h, if_pos (by omega)]
                        · rw [if_neg h, if_neg (by omega)]
                      have HS := Lib.hid hs
                      have HR := Lib.hid hr
                      clear hs hr
                      rw [heq] at y0 y1 y2 hne
                      generalize (if c < i then (1 : Int) else 0) = sn at *
                      generalize rF c i = r at *
                      obtain ⟨z0, z1, z2⟩ := (HC5.out.keep HBr.out) (kF p r) (by unfold kF; split <;> omega)
                      generalize L.getD (kF p r) default = y at *
                      have b1 : (y.no == x.no) = false := beq_false_of_ne hne
                      have e0 : (y.d == y.d) = true := by simp
                      have e1 : (y.no == y.no) = true := by simp
                      have e2 : (y.tag == y.tag) = true := by simp
                      have hkB : kB p (r + 1) = kF p r + 1 := by
                        unfold kB kF
                        by_cases h : r < p
                        · rw [if_pos h, if_pos (by omega)]
                        · rw [if_neg h, if_neg (by omega)]
                      have hkl : kF p r < L.length := by unfold kF; split <;> omega
                      have HKB := Lib.hid hkB
                      by_cases hrp : r = p
                      · have hk1 : kB p r = p := by unfold kB; rw [if_pos (by omega), hrp]
                        have hk2 : (p : Int) + 1 = (kF p r : Nat) := by unfold kF; rw [if_neg (by omega)]; omega
                        rw [hk1]
                        generalize kF p r = K at *
                        have K1 : (K : Int) < (L.length : Int) := by omega
                        have K0 : (0 : Int) ≤ (K : Int) := by omega
                        have g0 : decide (L.length ≤ K) = false := by simp; omega
                        have b2 : ((p : Int) == (p : Int)) = true := by simp
                        clear hlt hi hne heq hcl hpl hr2 hkl hk1 hkB hrp
                        go_wp2_with fail
                        go_quiet (fail)
                        go_wp2_with fail
                        go_roundw
                        case rel => exact ⟨i + 1, HLt.out, by go_num, by rw [HS.out], by rw [HR.out, HKB.out]; go_num, onF HBr.out (below_drewA _ _)⟩
                        case measure => have := HLt.out; simp [RowKit.intOf]; omega
                      · have hk1 : kB p r = kF p r := by
                          unfold kB kF
                          by_cases h : r < p
                          · rw [if_pos h, if_pos (by omega)]
                          · rw [if_neg h, if_neg (by omega)]
                        have hkp : kF p r ≠ p := by unfold kF; split <;> omega
                        rw [hk1]
                        generalize kF p r = K at *
                        have K1 : (K : Int) < (L.length : Int) := by omega
                        have K0 : (0 : Int) ≤ (K : Int) := by omega
                        have g0 : decide (L.length ≤ K) = false := by simp; omega
                        have b2 : ((K : Int) == (p : Int)) = false := beq_false_of_ne (by omega)
                        clear hlt hi hne heq hcl hpl hr2 hkl hk1 hkB hrp hkp
                        go_wp2_with fail
                        go_quiet (fail)
                        go_wp2_with fail
                        go_roundw
                        case rel => exact ⟨i + 1, HLt.out, by go_num, by rw [HS.out], by rw [HR.out, HKB.out]; go_num, onF HBr.out (below_drewA _ _)⟩
                        case measure => have := HLt.out; simp [RowKit.intOf]; omega
                  · obtain rfl : i = L.length := by omega
                    rw [if_pos HM.out.cl]
                    generalize kB p (rF c L.length) = k at *
                    obtain ⟨z0, z1, z2⟩ := (HC5.out.keep HBr.out) p HM.out.pl
                    rw [HM.out.atp] at z0
                    have hpl := HM.out.pl
                    have p1 : (p : Int) < (L.length : Int) := by omega
                    have hA6 := HA5.out.keep HBr.out
                    have hy : (⟨day, x.no, x.tag⟩ : It) ∈ L2 := by rw [← HLL.out]; exact (inI_mem _ _ _).2 (.inl rfl)
                    have hmv := amove_ok wr hA6 (by rw [HM.out.len]; omega) hy HI64.out x.d HXd.out
                    dsimp only at hmv
                    rw [show inI ⟨x.d, x.no, x.tag⟩ (noI x.no L2) = L from HM.out.back] at hmv
                    have HMv := Lib.hid hmv
                    have HA6 := Lib.hid hA6
                    have HB6 := Lib.hid (HB5.out.trans (HBr.out.mono HB5.out.size))
                    have HC6 := Lib.hid (HC5.out.keep HBr.out)
                    clear hlt hi hA6 hy hmv hpl z1 z2 HA5 HB5 HC5 HD5 HBr HXd
                    go_wp2_with fail
                    refine HMv.out.mono ?_
                    rintro e w7 ⟨rfl, hA7, ho7⟩
                    have HB7 := Lib.hid (HB6.out.trans (HA6.out.sb (Nat.le_refl _) ho7 HB6.out.size))
                    have HC7 := Lib.hid (HC6.out.off ho7 HGf.out)
                    have HIt := Lib.hid (items_any hA7 (by omega))
                    clear hA7 ho7 HMv HA6 HB6 HC6 z0
                    go_wp2_with fail
                    refine HIt.out.mono ?_
                    rintro e w8 ⟨vs, rfl, ho, hb8⟩
                    obtain ⟨g3, o3, cap3, rfl, he1, he2, hE⟩ : ∃ g3 o3 cap3, vs = .slice (some ⟨g3, o3, none⟩) L.length cap3 ∧ L.length ≤ cap3 ∧ cap3 ≤ 9223372036854775807 ∧ ItC w8 g3 o3 L := by
                      obtain ⟨ua, uc, rfl⟩ := ho.slice
                      obtain ⟨g3, o3, e, _, h1, h2, h3⟩ := ho.its (by have := HM.out.pl; omega)
                      subst e
                      exact ⟨g3, o3, uc, rfl, h1, h2, h3⟩
                    have HE8 := Lib.hid hE
                    have HB8 := Lib.hid (HB7.out.trans (hb8.mono HB7.out.size))
                    have HC8 := Lib.hid (HC7.out.keep hb8)
                    have q1 : ((L.length : Int) != (L.length : Int)) = false := by simp
                    clear ho hE hb8 HIt HB7 HC7
                    go_wp2_with fail
                    go_loopw [19] (fun vi wx => ∃ i : Nat, i ≤ L.length ∧ vi = .int .i64 (i : Nat) ∧ Below w8.heap.size w8 wx) (fun vi _ => L.length - (RowKit.intOf vi).toNat)
                    case atStart => exact ⟨0, Nat.zero_le _, rfl, Below.refl _ _⟩
                    case round =>
                      obtain ⟨i, hi, rfl, hbr⟩ := hrel
                      have HBr := Lib.hid hbr
                      clear hbr
                      by_cases hlt : i < L.length
                      · have i0 : (0 : Int) ≤ (i : Int) := by omega
                        have i1 : (i : Int) < (L.length : Int) := by omega
                        have HLt := Lib.hid hlt
                        obtain ⟨y0, y1, y2⟩ := (HE8.out.keep HBr.out) i hlt
                        obtain ⟨z0, z1, z2⟩ := (HC8.out.keep HBr.out) i hlt
                        generalize L.getD i default = y at *
                        have e0 : (y.d == y.d) = true := by simp
                        have e1 : (y.no == y.no) = true := by simp
                        have e2 : (y.tag == y.tag) = true := by simp
                        clear hlt hi
                        go_wp2_with fail
                        go_quiet (fail)
                        go_wp2_with fail
                        go_roundw
                        case rel => exact ⟨i + 1, HLt.out, by go_num, onF HBr.out (below_drewA _ _)⟩
                        case measure => have := HLt.out; simp [RowKit.intOf]; omega
                      · obtain rfl : i = L.length := by omega
                        clear hlt hi
                        have HB9 := Lib.hid (HB8.out.trans (HBr.out.mono HB8.out.size))
                        go_wp2_with fail
                        refine (HAw.out _).mono ?_
                        rintro e w9 ⟨rfl, hb9⟩
                        have HBZ := Lib.hid (onF HB9.out hb9)
                        clear hb9
                        go_wp2_with fail
                        go_ret
                        exact ⟨rfl, HBZ.out⟩
              · have HMv := Lib.hid (amove_day wr HA2.out hx HI64.out day hd)
                have HIt := Lib.hid (items_any HA2.out (by omega))
                clear M hd hx
                go_wp2_with fail
                refine HMv.out.mono ?_
                rintro e w4 ⟨rfl, rfl⟩
                go_wp2_with fail
                refine HIt.out.mono ?_
                rintro e w5 ⟨vs, rfl, ho, hb5⟩
                obtain ⟨ta, tc, rfl⟩ := ho.slice
                have HB5 := Lib.hid (onF HB2.out hb5)
                clear ho HIt hb5 HMv
                go_wp2_with fail
                refine (HAw.out _).mono ?_
                rintro e w8 ⟨rfl, hb8⟩
                have HB8 := Lib.hid (onF HB5.out hb8)
                clear hb8
                go_wp2_with fail
                go_ret
                exact ⟨rfl, HB8.out⟩
            · rw [ownF_none hno L.length (Nat.le_refl _)]
              have HMv := Lib.hid (amove_no wr HA2.out no day HI64.out hno)
              have HIt := Lib.hid (items_any HA2.out (by omega))
              clear hno
              go_wp2_with fail
              refine HMv.out.mono ?_
              rintro e w4 ⟨rfl, rfl⟩
              go_wp2_with fail
              refine HIt.out.mono ?_
              rintro e w5 ⟨vs, rfl, ho, hb5⟩
              obtain ⟨ta, tc, rfl⟩ := ho.slice
              have HB5 := Lib.hid (onF HB2.out hb5)
              clear ho HIt hb5 HMv
              go_wp2_with fail
              refine (HAw.out _).mono ?_
              rintro e w8 ⟨rfl, hb8⟩
              have HB8 := Lib.hid (onF HB5.out hb8)
              clear hb8
              go_wp2_with fail
              go_ret
              exact ⟨rfl, HB8.out⟩
  · have nl : (60 : Int) < (l.length : Int) := by omega
    go_enter Try.func8, Try.ntmps8
    go_wp2_with fail
    refine HN.out.mono ?_
    rintro e w1 ⟨a, q, bm, rfl, hA, hb⟩
    have HB := Lib.hid hb
    clear hA hb HN
    go_wp2_with fail
    refine (HAw.out _).mono ?_
    rintro e w2 ⟨rfl, hb2⟩
    have HB2 := Lib.hid (onF HB.out hb2)
    clear hb2 HAw
    go_wp2_with fail
    go_ret
    exact ⟨rfl, HB2.out⟩

end Go.Proofs.Ytkfcaafjnolhgaa

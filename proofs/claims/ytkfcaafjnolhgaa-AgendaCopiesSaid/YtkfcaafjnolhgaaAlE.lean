/-
  chattellaw11.AgendaCopies: its walk.
-/
import Derived.Test.YtkfcaafjnolhgaaAlD
import Derived.Deep.Cut
import Derived.Sort.BigQuietIn
namespace Go.Proofs.Ytkfcaafjnolhgaa
open Go.RowKit Go.Lib Go.Maps Go.Sort Go.Shelf
set_option linter.unusedVariables false
set_option linter.unusedSimpArgs false
attribute [local go_sem] Oper.semAt_some eq_it

set_option maxRecDepth 100000 in
set_option maxHeartbeats 16000000 in
theorem copies_in (w : World) (v v2 : Value) (l m : List Cl) (hv : SlCl w v l) (hm : SlCl w v2 m) (hl : l.length ≤ 40) (hml : m.length ≤ 30) :
    Calls Try.prog 6 #[v, v2] w fun e w' => e = .returned (.bool true) ∧ Below w.heap.size w w' := by
  obtain ⟨va, vc, rfl⟩ := hv.slice
  obtain ⟨vb, vd, rfl⟩ := hm.slice
  have HN := Lib.hid (fun w' => anew_any w')
  have HAw := Lib.hid (fun w' => awake11_any w')
  have HV := Lib.hid hv
  have HM := Lib.hid hm
  have nl : ¬ (40 : Int) < (l.length : Int) := by omega
  have nm : ¬ (30 : Int) < (m.length : Int) := by omega
  have hq := fnil_eqA
  clear hv hm
  obtain ⟨q0, hq4⟩ : ∃ q : Nat, 4 ≤ q := ⟨4, by omega⟩
  have hq1 : 1 ≤ q0 := by omega
  refine callsIn_wide.1 (callsIn_of_wp_marks (n := q0) Try.func6 rfl trivial ?_ rfl)
  simp only [Try.ntmps6, List.size_toArray, List.length_cons, List.length_nil, Nat.reduceAdd, Nat.reduceSub, Array.replicate_succ, Array.replicate_zero, List.push_toArray, List.append_toArray, List.nil_append, List.cons_append]
  refine wpIn_wide.2 ?_
  go_wp2_with fail
  refine (HN.out _).mono ?_
  rintro e w1 ⟨a, q, bm, rfl, hA, hb⟩
  obtain ⟨W0, e0, hb0, hz0, r0, rf⟩ : ∃ W0 : World, W0 = w.alloc (.cells #[.bool false] 4) ∧ Below w.heap.size w W0 ∧ W0.heap.size = w.heap.size + 1 ∧ W0.cell? ⟨w.heap.size, 0, none⟩ = some (.bool false) ∧ W0.frozen? ⟨w.heap.size, 0, none⟩ = false := ⟨_, rfl, newF _ _, by simp, (World.cell?_alloc_at _ _ _ _ rfl).trans rfl, World.frozen?_alloc_at _ _ _ _ rfl⟩
  rw [← e0] at hA hb
  have HA := Lib.hid hA
  have HB := Lib.hid hb
  have HR := Lib.hid (And.intro hb0 (And.intro hz0 (And.intro r0 rf)))
  clear hA hb HN e0 hb0 hz0 r0 rf
  have HV0 : Hid (SlCl W0 (.slice va l.length vc) l) := Lib.hid (HV.out.keep HR.out.1)
  have HM0 : Hid (SlCl W0 (.slice vb m.length vd) m) := Lib.hid (HM.out.keep HR.out.1)
  clear HV HM
  go_wp2_with fail
  go_loopw [6] (fun vi wr => ∃ (i : Nat) (lv : Value), i ≤ l.length ∧ vi = .int .i64 (i : Nat) ∧ AgV wr W0.heap.size a q bm lv (runZ (l.take i)).1 (runZ (l.take i)).2 ∧ Below W0.heap.size W0 wr)
    (fun vi _ => l.length - (RowKit.intOf vi).toNat)
  case atStart => exact ⟨0, _, Nat.zero_le _, rfl, HA.out, HB.out⟩
  case round =>
    obtain ⟨i, lv, hi, rfl, hAi, hbi⟩ := hrel
    by_cases hlt : i < l.length
    · have p0 : (0 : Int) ≤ (i : Int) := by omega
      have p1 : (i : Int) < (l.length : Int) := by omega
      obtain ⟨g, o, hva, _, hc1, hc2, k0, k1, k2⟩ := (HV0.out.keep hbi).at hlt
      subst hva
      have hle := runZ_le (l.take i)
      rw [List.length_take] at hle
      have HDo := Lib.hid (does_any wr hAi (by omega) (by omega) (l.getD i default).k (l.getD i default).d (l.getD i default).t (HV0.out.2 i hlt).2.2)
      have HNx := Lib.hid (runZ_next hlt)
      have HAi := Lib.hid hAi
      have HBi := Lib.hid hbi
      have HLt := Lib.hid hlt
      generalize (l.getD i default).k = ck at *
      generalize (l.getD i default).d = cd at *
      generalize (l.getD i default).t = ct at *
      generalize hz : doZ ck cd ct (runZ (l.take i)).1 (runZ (l.take i)).2 = z at *
      unfold itV at HDo
      clear hAi hbi hlt hle hz
      go_wp2_with fail
      refine HDo.out.mono ?_
      rintro e w2 ⟨rfl, lv2, hA2, ho, hf⟩
      have HB2 := Lib.hid (HBi.out.trans (HAi.out.sb (Nat.le_refl _) ho HBi.out.size))
      have HA2 := Lib.hid hA2
      clear hA2 ho hf HDo
      go_wp2_with fail
      go_roundw
      case rel => exact ⟨i + 1, lv2, HLt.out, by go_num, by rw [HNx.out]; exact HA2.out, HB2.out⟩
      case measure => have := HLt.out; simp [RowKit.intOf]; omega
    · have hie : i = l.length := by omega
      subst hie
      rw [List.take_length] at hAi
      have p1 : ¬ (l.length : Int) < (l.length : Int) := by omega
      have hle := runZ_le l
      have HLe : Hid ((runZ l).1.length ≤ 40 ∧ (runZ l).2 ≤ 40) := Lib.hid ⟨by omega, by omega⟩
      generalize (runZ l).1 = L at *
      generalize (runZ l).2 = N at *
      have HAi := Lib.hid hAi
      have HBi := Lib.hid hbi
      clear hAi hbi hle hlt hi HA HB HV0
      go_wp2_with fail
      refine (items_any HAi.out (by have := HLe.out.1; omega)).mono ?_
      rintro e w2 ⟨vs, rfl, ho, hb2⟩
      obtain ⟨sa, sc, rfl⟩ := ho.slice
      have HO := Lib.hid ho
      have HB2 := Lib.hid (onF HBi.out hb2)
      have HA2 := Lib.hid (HAi.out.keep hb2)
      have HZ2 := Lib.hid hb2.size
      have HFa := Lib.hid HAi.out.hi
      clear ho hb2 HAi HBi
      generalize wr.heap.size = B0 at *
      go_wp2_with fail
      obtain ⟨wb, eb, hbb, hzb, k7, f7⟩ : ∃ wb : World, wb = w2.alloc (.cells #[.slice sa L.length sc] 47) ∧ Below w2.heap.size w2 wb ∧ wb.heap.size = w2.heap.size + 1 ∧ wb.cell? ⟨w2.heap.size, 0, none⟩ = some (.slice sa L.length sc) ∧ wb.frozen? ⟨w2.heap.size, 0, none⟩ = false := ⟨_, rfl, newF _ _, by simp, (World.cell?_alloc_at _ _ _ _ rfl).trans rfl, World.frozen?_alloc_at _ _ _ _ rfl⟩
      rw [← eb]
      have HAb := Lib.hid (HA2.out.keep hbb)
      have HOb := Lib.hid (HO.out.grown hbb)
      have HBb := Lib.hid (onF HB2.out hbb)
      have HK7 := Lib.hid (And.intro k7 (And.intro f7 hzb))
      generalize w2.heap.size = X7 at *
      clear eb hbb hzb k7 f7 HA2 HO HB2
      refine (aall_new wb HAb.out (by have := HLe.out.1; omega)).mono ?_
      rintro e w3 ⟨Bs, vx, rfl, hBs, hcs, hos, hb3⟩
      have HA3 := Lib.hid (HAb.out.keep hb3)
      have HO3 := Lib.hid (HOb.out.grown hb3)
      have HB3 := Lib.hid (onF HBb.out hb3)
      have HK3 : Hid (w3.cell? ⟨X7, 0, none⟩ = some (.slice sa L.length sc) ∧ X7 < w3.heap.size) := Lib.hid ⟨keepF hb3 HK7.out.1, Nat.lt_of_lt_of_le (ltF HK7.out.1) hb3.size⟩
      have HS3 := Lib.hid (And.intro hcs hos)
      have HZ3 : Hid (X7 < wb.heap.size ∧ wb.heap.size ≤ w3.heap.size ∧ wb.heap.size ≤ Bs) := Lib.hid ⟨ltF HK7.out.1, hb3.size, hBs⟩
      clear hBs hcs hos hb3 HAb HOb HBb HK7
      go_wp2_with fail
      refine (acopy_any w3 HA3.out (by have := HLe.out.1; omega)).mono ?_
      rintro e w4 ⟨c, qc, bc, lc, rfl, hc4, hb4⟩
      have HC4 := Lib.hid (And.intro hc4 hb4)
      have HA4 := Lib.hid (HA3.out.keep hb4)
      clear hc4 hb4
      go_wp2_with fail
      refine (acopy_any w4 HA4.out (by have := HLe.out.1; omega)).mono ?_
      rintro e wX ⟨d, qd, bd, ld, rfl, hd5, hb5⟩
      have HT := Lib.hid (CpS.new (Tri.new HA3.out HB3.out HC4.out.1 HC4.out.2 hd5 hb5))
      have HbX := Lib.hid (onF HC4.out.2 hb5)
      have HFc := Lib.hid (And.intro HC4.out.1.lo hd5.lo)
      have HZ4 := Lib.hid HC4.out.2.size
      clear hd5 hb5 HA4 HC4
      have HGn : Hid (∀ j, B0 ≤ j → j < w3.heap.size → ¬ ofG a q bm lv c qc bc lc d qd bd ld j) := Lib.hid (fun j h1 h2 h3 => by
        rcases h3 with h3 | h3 | h3
        · have := HFa.out j h3; omega
        · have := HFc.out.1 j h3; omega
        · have := HFc.out.2 j h3; have := HZ4.out; omega)
      generalize hG : ofG a q bm lv c qc bc lc d qd bd ld = G at *
      clear hG
      -- what there was when the copies were made
      have HOX : Hid (OwnX itL 3 31 wX B0 (.slice sa L.length sc) L ∧ ∀ g, (Value.slice sa L.length sc).ownBlock = some g → ¬ G g) := Lib.hid ⟨HO3.out.grown HbX.out, fun g hg => HGn.out g (HO3.out.lt g hg).1 (HO3.out.lt g hg).2⟩
      have HSX : Hid (wX.cell? ⟨Bs, 0, none⟩ = some vx ∧ ¬ G Bs ∧ OwnX itL 3 31 wX wb.heap.size vx L ∧ ∀ g, vx.ownBlock = some g → ¬ G g) := Lib.hid ⟨keepF HbX.out HS3.out.1, HGn.out Bs (by have := HZ3.out.2.2; have := HZ3.out.1; have := HZ2.out; omega) (ltF HS3.out.1), HS3.out.2.grown HbX.out, fun g hg => HGn.out g (by have := (HS3.out.2.lt g hg).1; have := HZ3.out.1; have := HZ2.out; omega) (HS3.out.2.lt g hg).2⟩
      have HKX : Hid (wX.cell? ⟨X7, 0, none⟩ = some (.slice sa L.length sc) ∧ ¬ G X7) := Lib.hid ⟨keepF HbX.out HK3.out.1, HGn.out X7 HZ2.out HK3.out.2⟩
      clear HO3 HS3 HK3 HZ2 HZ3 HZ4 HbX HFc HFa HGn HA3 HB3
      have hqn := fnil_neA
      have HTX : Hid (∃ lv' lc' ld', CpS W0 wX wX G a q bm lv' L N w3.heap.size c qc bc lc' (runF (L, N) (m.take 0)).1 (runF (L, N) (m.take 0)).2 w4.heap.size d qd bd ld' (runF (L, N) (m.take 0)).1 (runF (L, N) (m.take 0)).2) := Lib.hid ⟨_, _, _, HT.out⟩
      clear HT
      generalize w3.heap.size = Bc at *
      generalize w4.heap.size = Bd at *
      go_wp2_with fail
      go_loopw [11] (fun vi wr => ∃ (i : Nat) (lv lc ld : Value), i ≤ m.length ∧ vi = .int .i64 (i : Nat) ∧ CpS W0 wX wr G a q bm lv L N Bc c qc bc lc (runF (L, N) (m.take i)).1 (runF (L, N) (m.take i)).2 Bd d qd bd ld (runF (L, N) (m.take i)).1 (runF (L, N) (m.take i)).2)
        (fun vi _ => m.length - (RowKit.intOf vi).toNat)
      case atStart => obtain ⟨x1, x2, x3, x4⟩ := HTX.out; exact ⟨0, x1, x2, x3, Nat.zero_le _, rfl, x4⟩
      case round =>
        obtain ⟨i, lv', lc', ld', hi, rfl, hS⟩ := hrel
        clear HTX
        have HS := Lib.hid hS
        clear hS
        by_cases hlt : i < m.length
        · have p0 : (0 : Int) ≤ (i : Int) := by omega
          have p1 : (i : Int) < (m.length : Int) := by omega
          obtain ⟨g, o, hva, _, hc1, hc2, j0, j1, j2⟩ := HM0.out.at hlt
          subst hva
          have k0 := keepF HS.out.tri.bel j0
          have k1 := keepF HS.out.tri.bel j1
          have k2 := keepF HS.out.tri.bel j2
          have hle := runF_le (L, N) (m.take i)
          rw [List.length_take] at hle
          dsimp only at hle
          have hle1 : (runF (L, N) (m.take i)).1.length < 1000 := by have := HLe.out.1; omega
          have hle2 : (runF (L, N) (m.take i)).2 < 1000 := by have := HLe.out.2; omega
          have HDc := Lib.hid (does_any _ HS.out.tri.fc hle2 hle1 (m.getD i default).k (m.getD i default).d (m.getD i default).t (HM0.out.2 i hlt).2.2)
          have HDd := Lib.hid (fun (wq : World) (hk : AgV wq Bd d qd bd ld' (runF (L, N) (m.take i)).1 (runF (L, N) (m.take i)).2) => does_any wq hk hle2 hle1 (m.getD i default).k (m.getD i default).d (m.getD i default).t (HM0.out.2 i hlt).2.2)
          have HNx := Lib.hid (runF_next (s := (L, N)) hlt)
          have HLt := Lib.hid hlt
          have HK := Lib.hid (And.intro j0 (And.intro j1 j2))
          clear j0 j1 j2
          generalize (m.getD i default).k = ck at *
          generalize (m.getD i default).d = cd at *
          generalize (m.getD i default).t = ct at *
          generalize hz : doZ ck cd ct (runF (L, N) (m.take i)).1 (runF (L, N) (m.take i)).2 = z at *
          rcases z with ⟨⟨xd, xn, xt⟩, ze, zL, zn⟩
          unfold itV at HDc HDd
          dsimp only at HDc HDd HNx
          clear hlt hle hle1 hle2 hz hi
          go_wp2_with fail
          refine HDc.out.mono ?_
          rintro e wc ⟨rfl, haft⟩
          obtain ⟨lc2, hS2⟩ := HS.out.doC haft
          obtain ⟨Wx, ex, hbx, x0, x1, x2, hzx⟩ : ∃ Wx : World, Wx = wc.alloc (.cells #[.int .i64 xd, .int .i64 xn, .int .i64 xt] 31) ∧ Below wc.heap.size wc Wx ∧ Wx.cell? ⟨wc.heap.size, 0, none⟩ = some (.int .i64 xd) ∧ Wx.cell? ⟨wc.heap.size, 1, none⟩ = some (.int .i64 xn) ∧ Wx.cell? ⟨wc.heap.size, 2, none⟩ = some (.int .i64 xt) ∧ Wx.heap.size = wc.heap.size + 1 := ⟨_, rfl, newF _ _, (World.cell?_alloc_at _ _ _ _ rfl).trans rfl, (World.cell?_alloc_at _ _ _ _ rfl).trans rfl, (World.cell?_alloc_at _ _ _ _ rfl).trans rfl, by simp⟩
          have HSx := Lib.hid (hS2.keep hbx)
          have HX := Lib.hid (And.intro x0 (And.intro x1 x2))
          have HXn : Hid (∀ j, FpA d qd bd ld' j → j ≠ wc.heap.size) := Lib.hid (fun j hj e => by have := hS2.tri.fd.hi j hj; omega)
          have HEx := Lib.hid ex
          have HDe := Lib.hid (HDd.out Wx HSx.out.tri.fd)
          clear k0 k1 k2 haft hS2 HDc HDd hbx hzx
          have k0 := keepF HSx.out.tri.bel HK.out.1
          have k1 := keepF HSx.out.tri.bel HK.out.2.1
          have k2 := keepF HSx.out.tri.bel HK.out.2.2
          rw [ex] at k0 k1 k2
          clear ex x0 x1 x2
          go_wp2_with fail
          rw [← HEx.out]
          refine HDe.out.mono ?_
          rintro e wd ⟨rfl, haft⟩
          obtain ⟨ld2, hS3⟩ := HSx.out.doD haft
          obtain ⟨ldx, _, ho, _⟩ := haft
          have HXd := Lib.hid (And.intro (ho.cell HX.out.1 (fun e => HXn.out _ e rfl)) (And.intro (ho.cell HX.out.2.1 (fun e => HXn.out _ e rfl)) (ho.cell HX.out.2.2 (fun e => HXn.out _ e rfl))))
          obtain ⟨Wy, ey, hby, y0, y1, y2⟩ : ∃ Wy : World, Wy = wd.alloc (.cells #[.int .i64 xd, .int .i64 xn, .int .i64 xt] 31) ∧ Below wd.heap.size wd Wy ∧ Wy.cell? ⟨wd.heap.size, 0, none⟩ = some (.int .i64 xd) ∧ Wy.cell? ⟨wd.heap.size, 1, none⟩ = some (.int .i64 xn) ∧ Wy.cell? ⟨wd.heap.size, 2, none⟩ = some (.int .i64 xt) := ⟨_, rfl, newF _ _, (World.cell?_alloc_at _ _ _ _ rfl).trans rfl, (World.cell?_alloc_at _ _ _ _ rfl).trans rfl, (World.cell?_alloc_at _ _ _ _ rfl).trans rfl⟩
          have HSy := Lib.hid (hS3.keep hby)
          have z0 := keepF hby HXd.out.1
          have z1 := keepF hby HXd.out.2.1
          have z2 := keepF hby HXd.out.2.2
          have HEy := Lib.hid ey
          rw [ey] at y0 y1 y2 z0 z1 z2
          clear ho hS3 hby HEx HX HXn HXd HDe HSx ey k0 k1 k2
          have e0 : (xd == xd) = true := by simp
          have e1 : (xn == xn) = true := by simp
          have e2 : (xt == xt) = true := by simp
          have e3 : (ze != ze) = false := by simp
          go_wp2_with fail
          go_roundw
          case rel => exact ⟨i + 1, lv', lc2, ld2, HLt.out, by go_num, by rw [HNx.out, ← HEy.out]; exact HSy.out⟩
          case measure => have := HLt.out; simp [RowKit.intOf]; omega
        · have hie : i = m.length := by omega
          subst hie
          rw [List.take_length] at HS
          have p1' : ¬ (m.length : Int) < (m.length : Int) := by omega
          have hle := runF_le (L, N) m
          dsimp only at hle
          have HLe2 : Hid ((runF (L, N) m).1.length ≤ 70 ∧ (runF (L, N) m).2 ≤ 70) := Lib.hid (by have := HLe.out; omega)
          have HM2 := Lib.hid (show runF (L, N) m = ((runF (L, N) m).1, (runF (L, N) m).2) from rfl)
          generalize (runF (L, N) m).1 = M2 at *
          generalize (runF (L, N) m).2 = N2 at *
          clear hle hlt hi
          go_wp2_with fail
          refine (items_any HS.out.tri.fa (by have := HLe.out.1; omega)).mono ?_
          rintro e w6 ⟨vn, rfl, ho, hb6⟩
          obtain ⟨na, nc, rfl⟩ := ho.slice
          have HS6 := Lib.hid (HS.out.keep hb6)
          have HN6 : Hid (OwnX itL 3 31 w6 wr.heap.size (.slice na L.length nc) L ∧ ∀ j, (Value.slice na L.length nc).ownBlock = some j → ¬ FpA a q bm lv' j) := Lib.hid ⟨ho, fun j hj hk => by have h1 := (ho.lt j hj).1; have h2 := HS.out.tri.fa.hi j hk; omega⟩
          generalize wr.heap.size = B6 at *
          clear ho hb6 HS
          go_wp2_with fail
          go_loopw [17] (fun vi wr => ∃ (i : Nat) (lv2 : Value), i ≤ m.length ∧ vi = .int .i64 (i : Nat) ∧ CpS W0 wX wr G a q bm lv2 (runF (L, N) (m.take i)).1 (runF (L, N) (m.take i)).2 Bc c qc bc lc' M2 N2 Bd d qd bd ld' M2 N2 ∧ OwnX itL 3 31 wr B6 (.slice na L.length nc) L ∧ ∀ j, (Value.slice na L.length nc).ownBlock = some j → ¬ FpA a q bm lv2 j)
            (fun vi _ => m.length - (RowKit.intOf vi).toNat)
          case atStart => exact ⟨0, lv', Nat.zero_le _, rfl, HS6.out, HN6.out.1, HN6.out.2⟩
          case round =>
            obtain ⟨i, lv2, hi, rfl, hS, hR1, hR2⟩ := hrel
            clear HS6 HN6
            have HS := Lib.hid hS
            have HNw := Lib.hid (And.intro hR1 hR2)
            clear hS hR1 hR2
            by_cases hlt : i < m.length
            · have p0 : (0 : Int) ≤ (i : Int) := by omega
              have p1 : (i : Int) < (m.length : Int) := by omega
              obtain ⟨g, o, hva, _, hc1, hc2, j0, j1, j2⟩ := HM0.out.at hlt
              subst hva
              have k0 := keepF HS.out.tri.bel j0
              have k1 := keepF HS.out.tri.bel j1
              have k2 := keepF HS.out.tri.bel j2
              have hle := runF_le (L, N) (m.take i)
              rw [List.length_take] at hle
              dsimp only at hle
              have hle1 : (runF (L, N) (m.take i)).1.length < 1000 := by have := HLe.out.1; omega
              have hle2 : (runF (L, N) (m.take i)).2 < 1000 := by have := HLe.out.2; omega
              have HDa := Lib.hid (does_any _ HS.out.tri.fa hle2 hle1 (m.getD i default).k (m.getD i default).d (m.getD i default).t (HM0.out.2 i hlt).2.2)
              have HNx := Lib.hid (runF_next (s := (L, N)) hlt)
              have HLt := Lib.hid hlt
              generalize (m.getD i default).k = ck at *
              generalize (m.getD i default).d = cd at *
              generalize (m.getD i default).t = ct at *
              generalize hz : doZ ck cd ct (runF (L, N) (m.take i)).1 (runF (L, N) (m.take i)).2 = z at *
              rcases z with ⟨⟨xd, xn, xt⟩, ze, zL, zn⟩
              unfold itV at HDa
              dsimp only at HDa HNx
              clear hlt hle hle1 hle2 hz hi j0 j1 j2
              go_wp2_with fail
              refine HDa.out.mono ?_
              rintro e w8 ⟨rfl, haft⟩
              obtain ⟨lv3, hS2, ho, hf⟩ := HS.out.doA haft
              have HS8 := Lib.hid hS2
              have HN8 := Lib.hid (HNw.out.1.beside ho HNw.out.2 hf)
              clear hS2 haft ho hf HDa
              go_wp2_with fail
              go_roundw
              case rel => exact ⟨i + 1, lv3, HLt.out, by go_num, by rw [HNx.out]; exact HS8.out, HN8.out.1, HN8.out.2⟩
              case measure => have := HLt.out; simp [RowKit.intOf]; omega
            · have hie : i = m.length := by omega
              subst hie
              rw [List.take_length, HM2.out] at HS
              dsimp only at HS
              clear hlt hi
              go_wp2_with fail
              have b7 := newF wr (.cells #[.int .i64 0] 3)
              have x0 : (wr.alloc (.cells #[.int .i64 0] 3)).cell? ⟨wr.heap.size, 0, none⟩ = some (.int .i64 0) := (World.cell?_alloc_at _ _ _ _ rfl).trans rfl
              have xf : (wr.alloc (.cells #[.int .i64 0] 3)).frozen? ⟨wr.heap.size, 0, none⟩ = false := World.frozen?_alloc_at _ _ _ _ rfl
              have hst := vals_it (q0 - 1) (by omega) Bs vx L (by have := HLe.out.1; omega) wr (HS.out.off.cell HSX.out.1 HSX.out.2.1) ((HS.out.off.row HSX.out.2.2.1 HSX.out.2.2.2).row (E := itL) (k := 3) itL_len)
              have hz7 : (wr.alloc (.cells #[.int .i64 0] 3)).heap.size = wr.heap.size + 1 := by simp
              have HZ := Lib.hid hz7
              have HWs := Lib.hid (HS.out.off.row HOX.out.1 HOX.out.2)
              have HWk := Lib.hid (HS.out.off.cell HKX.out.1 HKX.out.2)
              have HB7 := Lib.hid b7
              clear HSX HOX HKX
              generalize wr.alloc (.cells #[.int .i64 0] 3) = W7 at *
              refine wpIn_wide.1 (wpIn_rangeFunc_ownH rfl hq1 (gf := 42) (lb := #[.pointer (some ⟨Bs, 0, none⟩)]) rfl trivial (enters_of Try.func42 (by kernel_rfl) rfl)
                hst (fun h h' => h.trans h') (fun W l o o' h1 h2 h3 h4 => belowK_b (w := wr) (Nat.le_refl _) W l o o' (by omega) h2 h3 h4) b7 (fun x => rfl)
                (fun pre W => pre = L.take pre.length ∧ Below wr.heap.size wr W ∧ W.cell? ⟨wr.heap.size, 0, none⟩ = some (.int .i64 (pre.length : Nat)) ∧ W.frozen? ⟨wr.heap.size, 0, none⟩ = false)
                (fun _ pre _ => pre ≠ L.take pre.length)
                (fun s A C row hs hg hr => by
                  obtain ⟨p9, q1, q2, q3⟩ := hs
                  exact ⟨p9, q1.grown hg q1.size (fun j hj => by have := (hr j hj).1; have := HZ.out; omega), cell_kept q2 hg (fun r e => (hr r e).2), (World.frozen?_of_block (a := ⟨wr.heap.size, 0, none⟩) (hg.block _ (ltF q2) (fun e => by have h9 : W7.heap.size ≤ wr.heap.size := (hr _ e.symm).1; have := HZ.out; omega))).trans q3⟩)
                (fun _ _ _ _ _ hs _ _ => hs)
                ⟨rfl, b7, x0, xf⟩
                (fun x a' W => ∃ X, a' = { tmps := #[.slice va l.length vc, .slice vb m.length vd, undef, undef, .pointer (some ⟨w.heap.size, 0, none⟩), .pointer (some ⟨a, 0, none⟩), .int .i64 ((l.length : Nat) : Int), .pointer (some ⟨X7, 0, none⟩), .func (.func 42) #[] #[.pointer (some ⟨Bs, 0, none⟩)], .pointer (some ⟨c, 0, none⟩), .pointer (some ⟨d, 0, none⟩), .int .i64 ((m.length : Nat) : Int), u12, u13, u14, u15, .slice na L.length nc, .int .i64 ((m.length : Nat) : Int), .pointer (some ⟨wr.heap.size, 0, none⟩), .pointer (some ⟨X, 0, none⟩), undef, undef, undef, undef, .pointer (some ⟨a, 0, none⟩), .pointer (some ⟨a, 0, none⟩), .bool false, .bool false, .slice va l.length vc, .int .i64 ((l.length : Nat) : Int), .bool (decide ((40 : Int) < ((l.length : Nat) : Int))), .bool (decide ((40 : Int) < ((l.length : Nat) : Int))), .bool (decide ((40 : Int) < ((l.length : Nat) : Int))), .slice vb m.length vd, .int .i64 ((m.length : Nat) : Int), .bool (decide ((30 : Int) < ((m.length : Nat) : Int))), .bool (decide ((40 : Int) < ((l.length : Nat) : Int)) || decide ((30 : Int) < ((m.length : Nat) : Int))), undef, undef, undef, undef, undef, .int .i64 ((l.length : Nat) : Int), .slice va l.length vc, .int .i64 ((l.length : Nat) : Int), .bool false, u46, u47, u48, u49, u50, u51, u52, u53, .pointer (some ⟨a, 0, none⟩), .slice sa L.length sc, .pointer (some ⟨a, 0, none⟩), .func (.func 42) #[] #[.pointer (some ⟨Bs, 0, none⟩)], .pointer (some ⟨a, 0, none⟩), .pointer (some ⟨c, 0, none⟩), .pointer (some ⟨a, 0, none⟩), .pointer (some ⟨d, 0, none⟩), .pointer (some ⟨c, 0, none⟩), .bool false, .bool false, .pointer (some ⟨d, 0, none⟩), .bool false, .bool false, .bool false, .func (.func 42) #[] #[.pointer (some ⟨Bs, 0, none⟩)], .bool false, .bool false, .int .i64 ((m.length : Nat) : Int), .slice vb m.length vd, .int .i64 ((m.length : Nat) : Int), .bool false, u76, u77, u78, u79, u80, u81, u82, u83, u84, u85, u86, u87, u88, u89, u90, u91, u92, u93, u94, u95, u96, u97, u98, u99, u100, u101, u102, u103, .pointer (some ⟨a, 0, none⟩), .slice na L.length nc, .int .i64 ((m.length : Nat) : Int), .slice vb m.length vd, .int .i64 ((m.length : Nat) : Int), .bool false, u110, u111, u112, u113, u114, u115, u116, u117, .func (.func 42) #[] #[.pointer (some ⟨Bs, 0, none⟩)], .agg (itL x).toArray, undef, undef, undef, undef, undef, undef, undef, undef, undef, undef, undef, undef, undef, undef, undef, undef, undef, undef, undef, undef, undef, undef, undef, undef, undef, undef, undef, undef, undef, undef, undef, undef, undef, undef, undef, undef, undef, undef, undef, undef, undef, undef, undef, undef, undef, undef, undef, undef, undef, undef, undef, undef, undef, undef, undef, undef, undef, undef, undef, undef, undef, undef, undef, undef, undef], defers := [] } ∧ wr.heap.size < X ∧ ∀ j c, (itL x)[j]? = some c → W.cell? ⟨X, j, none⟩ = some c)
                (fun x a' s A C row hs hg hr => by
                  obtain ⟨X, e, hX, h2⟩ := hs
                  exact ⟨X, e, hX, fun j c hj => cell_kept (h2 j c hj) hg (fun r e => (hr r e).2)⟩)
                ?assign ?body ?done ?stop)
              case assign =>
                rintro l pre x W K ⟨p9, q1, q2, q3⟩ hK
                dsimp only [itL]
                gi_wp2
                refine hK _ _ (KeepsFrom.of_grownBy (World.grownBy_alloc W _ none) (fun j e => by cases e)) ((Below.refl _ W).alloc q1.size _) ⟨p9, q1.trans ((Below.refl _ W).alloc q1.size _), keepF (newF _ _) q2, ((newF W _).frozen (p := ⟨wr.heap.size, 0, none⟩) (ltF q2)).trans q3⟩ ⟨W.heap.size, rfl, ltF q2, fun j c hj => ?_⟩
                rw [World.cell?_alloc_at _ _ _ _ rfl]
                simpa [itL] using hj
              case body =>
                rintro l pre x a' W hl2 hr ⟨p9, q1, q2, q3⟩ ⟨X, rfl, hX, hx⟩ hlt
                have x0 := hx 0 _ rfl
                have x1 := hx 1 _ rfl
                have x2 := hx 2 _ rfl
                have hbw := Nat.lt_of_lt_of_le (ltF HWk.out) (Nat.le_refl _)
                have k7 : W.cell? ⟨X7, 0, none⟩ = some (.slice sa L.length sc) := (q1.cell (p := ⟨X7, 0, none⟩) hbw).trans HWk.out
                obtain ⟨g, o, ha, _, hc1, hc2, hC⟩ := HWs.out.its (by omega)
                have hC' : ItC W g o L := fun j hj => ⟨(q1.cell (p := ⟨g, o + j * 3, none⟩) (ltF (hC j hj).1)).trans (hC j hj).1, (q1.cell (p := ⟨g, o + j * 3 + 1, none⟩) (ltF (hC j hj).2.1)).trans (hC j hj).2.1, (q1.cell (p := ⟨g, o + j * 3 + 2, none⟩) (ltF (hC j hj).2.2)).trans (hC j hj).2.2⟩
                obtain ⟨y0, y1, y2⟩ := hC' pre.length hlt
                obtain ⟨n, hn⟩ : ∃ n, n = pre.length := ⟨_, rfl⟩
                rw [← hn] at y0 y1 y2 q2
                have hnl : n < L.length := by omega
                have p0 : (0 : Int) ≤ (n : Int) := by omega
                have p1 : (n : Int) < (L.length : Int) := by omega
                have g0 : decide (L.length ≤ n) = false := by simp; omega
                have HP := Lib.hid p9
                have HN := Lib.hid hn
                have HQ := Lib.hid q1
                have r0 : W.cell? ⟨w.heap.size, 0, none⟩ = some (.bool false) := (q1.cell (p := ⟨w.heap.size, 0, none⟩) (ltF (keepF HS.out.tri.bel HR.out.2.2.1))).trans (keepF HS.out.tri.bel HR.out.2.2.1)
                have rf : W.frozen? ⟨w.heap.size, 0, none⟩ = false := ((q1.frozen (p := ⟨w.heap.size, 0, none⟩) (ltF (keepF HS.out.tri.bel HR.out.2.2.1))).trans (HS.out.tri.bel.frozen (p := ⟨w.heap.size, 0, none⟩) (ltF HR.out.2.2.1))).trans HR.out.2.2.2
                subst ha
                clear hC hC' hx hbw p9 hn q1 hc1
                dsimp only [itL]
                by_cases hxy : x = L.getD n default
                · subst hxy
                  generalize hY : L.getD n default = y at *
                  have HY := Lib.hid hY
                  clear hY
                  have e0 : (y.d == y.d) = true := by simp
                  have e1 : (y.no == y.no) = true := by simp
                  have e2 : (y.tag == y.tag) = true := by simp
                  gi_wp2_with fail
                  gi_region
                  all_goals gi_wp2
                  all_goals exact loop_step HQ.out HP.out HN.out q2 q3 HY.out hnl HLe.out.1 rfl rfl rfl rfl
                · have hne : ((L.getD n default).d == x.d && ((L.getD n default).no == x.no && (L.getD n default).tag == x.tag)) = false := by
                    cases hb : ((L.getD n default).d == x.d && ((L.getD n default).no == x.no && (L.getD n default).tag == x.tag)) with
                    | false => rfl
                    | true => exact absurd (it_eq hb) hxy
                  have hnq : ∀ W, (binOp BinOp.neq 31 (.agg #[.int .i64 (L.getD n default).d, .int .i64 (L.getD n default).no, .int .i64 (L.getD n default).tag]) (.agg #[.int .i64 x.d, .int .i64 x.no, .int .i64 x.tag])).run Try.prog W = .ok (.bool true) W := fun W => by rw [ne_it, hne]; rfl
                  clear hne
                  have HX : Hid (pre ++ [x] ≠ L.take (pre ++ [x]).length) := Lib.hid (fun e => hxy (by
                    rw [List.length_append, List.length_singleton, take_itm (by omega), HP.out.symm] at e
                    have e2 := List.append_cancel_left e
                    injection e2 with e3 _
                    rw [e3, HN.out]))
                  generalize L.getD n default = y at *
                  clear hxy
                  gi_wp2_with fail
                  gi_region
                  all_goals gi_wp2
                  all_goals exact ⟨loop_stop (b := w.heap.size) (v := .bool false) rfl, HX.out⟩
              case done =>
                rintro D ys W hD rfl ⟨p9, q1, q2, q3⟩ hK
                have HDl : Hid (D < W.heap.size) := Lib.hid (Array.getElem?_eq_some_iff.1 hK).1
                have HDk := Lib.hid hK
                have HS8sz : Hid (w.heap.size + 1 ≤ wr.heap.size) := Lib.hid (by have h1 := HS.out.tri.bel.size; have h2 := HR.out.2.1; omega)
                have HS8 := Lib.hid (HS.out.keep q1)
                have HW8 := Lib.hid (HWs.out.grown q1)
                have HN8 := Lib.hid (HNw.out.1.grown q1)
                have k7 : W.cell? ⟨X7, 0, none⟩ = some (.slice sa ys.length sc) := (q1.cell (p := ⟨X7, 0, none⟩) (ltF HWk.out)).trans HWk.out
                have c0 : ((ys.length : Int) != (ys.length : Int)) = false := by simp
                have HK7 := Lib.hid k7
                clear p9 q1 q3 hK hst x0 xf HWs HNw HWk HS
                go_wp2_with fail
                generalize ys = L at *
                go_loopw [20] (fun vi wx => ∃ i : Nat, i ≤ L.length ∧ vi = .int .i64 (i : Nat) ∧ Below W.heap.size W wx) (fun vi _ => L.length - (RowKit.intOf vi).toNat)
                case atStart => exact ⟨0, Nat.zero_le _, rfl, Below.refl _ _⟩
                case round =>
                  obtain ⟨i, hi, rfl, hbr⟩ := hrel
                  have HBr := Lib.hid hbr
                  clear k7
                  have k7 := keepF hbr HK7.out
                  clear hbr
                  by_cases hlt : i < L.length
                  · have i0 : (0 : Int) ≤ (i : Int) := by omega
                    have i1 : (i : Int) < (L.length : Int) := by omega
                    have HLt := Lib.hid hlt
                    obtain ⟨g1, o1, ha1, _, _, hd1, hC1⟩ := HW8.out.its (by omega)
                    obtain ⟨g2, o2, ha2, _, _, hd2, hC2⟩ := HN8.out.its (by omega)
                    subst ha1
                    subst ha2
                    obtain ⟨y0, y1, y2⟩ := (hC1.keep HBr.out) i hlt
                    obtain ⟨z0, z1, z2⟩ := (hC2.keep HBr.out) i hlt
                    generalize L.getD i default = y at *
                    have e0 : (y.d == y.d) = true := by simp
                    have e1 : (y.no == y.no) = true := by simp
                    have e2 : (y.tag == y.tag) = true := by simp
                    clear hlt hi hC1 hC2
                    go_wp2_with fail
                    go_quiet (fail)
                    go_wp2_with fail
                    go_roundw
                    case rel => exact ⟨i + 1, HLt.out, by go_num, onF HBr.out (below_drewA _ _)⟩
                    case measure => have := HLt.out; simp [RowKit.intOf]; omega
                  · obtain rfl : i = L.length := by omega
                    have i1 : ¬ (L.length : Int) < (L.length : Int) := by omega
                    have HS9 := Lib.hid (HS8.out.keep HBr.out)
                    clear hlt hi HW8 HN8 HK7 HS8
                    go_wp2_with fail
                    refine (items_any HS9.out.tri.fa (by have := HLe2.out.1; omega)).mono ?_
                    rintro e wa ⟨va', rfl, hoa, hba⟩
                    obtain ⟨pa, pc, rfl⟩ := hoa.slice
                    have HOa := Lib.hid hoa
                    have HSa := Lib.hid (HS9.out.keep hba)
                    have HBa := Lib.hid (onF HBr.out hba)
                    clear hoa hba HS9 HBr k7
                    go_wp2_with fail
                    refine (items_any HSa.out.tri.fc (by have := HLe2.out.1; omega)).mono ?_
                    rintro e wc ⟨vc', rfl, hoc, hbc⟩
                    obtain ⟨qa, qc', rfl⟩ := hoc.slice
                    have HOc := Lib.hid hoc
                    have HOa2 := Lib.hid (HOa.out.grown hbc)
                    have HSc := Lib.hid (HSa.out.keep hbc)
                    have HBc := Lib.hid (onF HBa.out hbc)
                    have c1 : ((M2.length : Int) != (M2.length : Int)) = false := by simp
                    clear hoc hbc HSa HBa HOa
                    go_wp2_with fail
                    go_loopw [23] (fun vi wx => ∃ i : Nat, i ≤ M2.length ∧ vi = .int .i64 (i : Nat) ∧ Below wc.heap.size wc wx) (fun vi _ => M2.length - (RowKit.intOf vi).toNat)
                    case atStart => exact ⟨0, Nat.zero_le _, rfl, Below.refl _ _⟩
                    case round =>
                      obtain ⟨i, hi, rfl, hbr⟩ := hrel
                      have HBr := Lib.hid hbr
                      clear hbr
                      by_cases hlt : i < M2.length
                      · have i0 : (0 : Int) ≤ (i : Int) := by omega
                        have i2 : (i : Int) < (M2.length : Int) := by omega
                        have HLt := Lib.hid hlt
                        obtain ⟨g1, o1, ha1, _, _, hd1, hC1⟩ := HOa2.out.its (by omega)
                        obtain ⟨g2, o2, ha2, _, _, hd2, hC2⟩ := HOc.out.its (by omega)
                        subst ha1
                        subst ha2
                        obtain ⟨y0, y1, y2⟩ := (hC1.keep HBr.out) i hlt
                        obtain ⟨z0, z1, z2⟩ := (hC2.keep HBr.out) i hlt
                        generalize M2.getD i default = y at *
                        have e0 : (y.d == y.d) = true := by simp
                        have e1 : (y.no == y.no) = true := by simp
                        have e2 : (y.tag == y.tag) = true := by simp
                        clear hlt hi hC1 hC2
                        go_wp2_with fail
                        go_quiet (fail)
                        go_wp2_with fail
                        go_roundw
                        case rel => exact ⟨i + 1, HLt.out, by go_num, onF HBr.out (below_drewA _ _)⟩
                        case measure => have := HLt.out; simp [RowKit.intOf]; omega
                      · obtain rfl : i = M2.length := by omega
                        have i2 : ¬ (M2.length : Int) < (M2.length : Int) := by omega
                        have HSe := Lib.hid (HSc.out.keep HBr.out)
                        clear hlt hi HOa2 HOc
                        go_wp2_with fail
                        refine (HAw.out _).mono ?_
                        rintro e wz ⟨rfl, hbz⟩
                        have HSz := Lib.hid (HSe.out.keep hbz)
                        have HBz := Lib.hid (onF HBc.out (onF HBr.out hbz))
                        have HBw := Lib.hid (onF HR.out.1 HSz.out.tri.bel)
                        have r0 : wz.cell? ⟨w.heap.size, 0, none⟩ = some (.bool false) := keepF HSz.out.tri.bel HR.out.2.2.1
                        have rf : wz.frozen? ⟨w.heap.size, 0, none⟩ = false := (HSz.out.tri.bel.frozen (p := ⟨w.heap.size, 0, none⟩) (ltF HR.out.2.2.1)).trans HR.out.2.2.2
                        clear hbz
                        go_wp2
                        have hKd := (HBz.out.block D HDl.out).trans HDk.out
                        have hKw := (KeepsOthers.setCell wz ⟨w.heap.size, 0, none⟩ (.bool true)).same D _ hKd rfl
                        refine ⟨by simp, .inl ⟨_, _, rfl, run_takeDeferred hKw, ?_⟩⟩
                        have f0 : (wz.setCell ⟨w.heap.size, 0, none⟩ (.bool true)).cell? ⟨w.heap.size, 0, none⟩ = some (.bool true) := cell_same r0
                        have g0 := cell_kept f0 (grownBy_putObj' _ D (.deferred none)) (fun r e => by cases e; exact ⟨_, hKw, rfl⟩)
                        have hbw : RowKit.Below w.heap.size w (wz.setCell ⟨w.heap.size, 0, none⟩ (.bool true)) := by
                          refine RowKit.Below.setCell HBw.out ?_ _
                          exact Nat.le_refl _
                        exact ⟨.bool true, by simp [results, Try.results6, go_sem, g0], rfl, hbw.trans (belowK_b (w := w) (Nat.le_refl _) _ D _ _ (by have h1 := HR.out.2.1; have h2 := HS8sz.out; have h3 := HZ.out; omega) hKw rfl rfl)⟩
              case stop =>
                rintro D cc pre W _ ⟨k, hk⟩ h _
                exact absurd (by rw [hk, List.take_left]) h
set_option maxRecDepth 100000 in
set_option maxHeartbeats 4000000 in
theorem copies_no (w : World) (v v2 : Value) (l m : List Cl) (hv : SlCl w v l) (hm : SlCl w v2 m) (hc : ¬ (l.length ≤ 40 ∧ m.length ≤ 30)) :
    Calls Try.prog 6 #[v, v2] w fun e w' => e = .returned (.bool true) ∧ Below w.heap.size w w' := by
  obtain ⟨va, vc, rfl⟩ := hv.slice
  obtain ⟨vb, vd, rfl⟩ := hm.slice
  have HN := Lib.hid (fun w' => anew_any w')
  have HAw := Lib.hid (fun w' => awake11_any w')
  obtain ⟨W0, e0, hb0, hz0, r0, rf⟩ : ∃ W0 : World, W0 = w.alloc (.cells #[.bool false] 4) ∧ Below w.heap.size w W0 ∧ W0.heap.size = w.heap.size + 1 ∧ W0.cell? ⟨w.heap.size, 0, none⟩ = some (.bool false) ∧ W0.frozen? ⟨w.heap.size, 0, none⟩ = false := ⟨_, rfl, newF _ _, by simp, (World.cell?_alloc_at _ _ _ _ rfl).trans rfl, World.frozen?_alloc_at _ _ _ _ rfl⟩
  have HE := Lib.hid e0
  have HR := Lib.hid (And.intro hb0 (And.intro r0 rf))
  clear hv hm e0 hb0 hz0 r0 rf
  by_cases hl : l.length ≤ 40
  · have nl : ¬ (40 : Int) < (l.length : Int) := by omega
    have nm : (30 : Int) < (m.length : Int) := by omega
    clear hc hl
    go_enter Try.func6, Try.ntmps6
    go_wp2_with fail
    rw [← HE.out]
    refine (HN.out W0).mono ?_
    rintro e w1 ⟨a, q, bm, rfl, hA, hb⟩
    have HB1 := Lib.hid hb
    clear hA hb HN
    go_wp2_with fail
    refine (HAw.out _).mono ?_
    rintro e wz ⟨rfl, hbz⟩
    have HBZ := Lib.hid (onF HR.out.1 (onF HB1.out hbz))
    have r0 := keepF hbz (keepF HB1.out HR.out.2.1)
    have rf := ((hbz.frozen (p := ⟨w.heap.size, 0, none⟩) (ltF (keepF HB1.out HR.out.2.1))).trans (HB1.out.frozen (p := ⟨w.heap.size, 0, none⟩) (ltF HR.out.2.1))).trans HR.out.2.2
    clear hbz
    go_wp2_with fail
    exact bodyPost_ret (v := .bool true) (by simp [results, Try.results6, go_sem, r0]) rfl ⟨rfl, Below.setCell HBZ.out (Nat.le_refl _) _⟩
  · have nl : (40 : Int) < (l.length : Int) := by omega
    clear hc hl
    go_enter Try.func6, Try.ntmps6
    go_wp2_with fail
    rw [← HE.out]
    refine (HN.out W0).mono ?_
    rintro e w1 ⟨a, q, bm, rfl, hA, hb⟩
    have HB1 := Lib.hid hb
    clear hA hb HN
    go_wp2_with fail
    refine (HAw.out _).mono ?_
    rintro e wz ⟨rfl, hbz⟩
    have HBZ := Lib.hid (onF HR.out.1 (onF HB1.out hbz))
    have r0 := keepF hbz (keepF HB1.out HR.out.2.1)
    have rf := ((hbz.frozen (p := ⟨w.heap.size, 0, none⟩) (ltF (keepF HB1.out HR.out.2.1))).trans (HB1.out.frozen (p := ⟨w.heap.size, 0, none⟩) (ltF HR.out.2.1))).trans HR.out.2.2
    clear hbz
    go_wp2_with fail
    exact bodyPost_ret (v := .bool true) (by simp [results, Try.results6, go_sem, r0]) rfl ⟨rfl, Below.setCell HBZ.out (Nat.le_refl _) _⟩
theorem copies11_walk (w : World) (v v2 : Value) (l m : List Cl) (hv : SlCl w v l) (hm : SlCl w v2 m) :
    Calls Try.prog 6 #[v, v2] w fun e w' => e = .returned (.bool true) ∧ Below w.heap.size w w' := by
  by_cases c : l.length ≤ 40 ∧ m.length ≤ 30
  · exact copies_in w v v2 l m hv hm c.1 c.2
  · exact copies_no w v v2 l m hv hm c

end Go.Proofs.Ytkfcaafjnolhgaa

/-
  chattellaw11.AgendaThere: its walk.
-/
import Derived.Test.YtkfcaafjnolhgaaAiA
import Derived.Test.YtkfcaafjnolhgaaAhO
import Derived.Deep.Cut
namespace Go.Proofs.Ytkfcaafjnolhgaa
open Go.RowKit Go.Lib Go.Maps Go.Sort Go.Shelf
set_option linter.unusedVariables false
set_option linter.unusedSimpArgs false

set_option maxRecDepth 100000 in
theorem th_new (w : World) : ThV (w.alloc (.cells #[.bool false, .bool false, .bool false, .bool false, .bool false, .bool false, .bool false, .bool false, .bool false, .bool false, .bool false, .bool false, .bool false, .bool false, .bool false, .bool false, .bool false, .bool false, .bool false, .bool false, .bool false, .bool false, .bool false, .bool false, .bool false, .bool false, .bool false, .bool false, .bool false, .bool false, .bool false, .bool false, .bool false, .bool false, .bool false, .bool false, .bool false, .bool false, .bool false, .bool false, .bool false, .bool false, .bool false, .bool false, .bool false, .bool false, .bool false, .bool false, .bool false, .bool false, .bool false, .bool false, .bool false, .bool false, .bool false, .bool false, .bool false, .bool false, .bool false, .bool false, .bool false] 54)) w.heap.size (thN []) := fun j hj => by
  have e : (#[.bool false, .bool false, .bool false, .bool false, .bool false, .bool false, .bool false, .bool false, .bool false, .bool false, .bool false, .bool false, .bool false, .bool false, .bool false, .bool false, .bool false, .bool false, .bool false, .bool false, .bool false, .bool false, .bool false, .bool false, .bool false, .bool false, .bool false, .bool false, .bool false, .bool false, .bool false, .bool false, .bool false, .bool false, .bool false, .bool false, .bool false, .bool false, .bool false, .bool false, .bool false, .bool false, .bool false, .bool false, .bool false, .bool false, .bool false, .bool false, .bool false, .bool false, .bool false, .bool false, .bool false, .bool false, .bool false, .bool false, .bool false, .bool false, .bool false, .bool false, .bool false] : Array Value) = Array.replicate 61 (.bool false) := by kernel_rfl
  refine ⟨(World.cell?_alloc_at _ _ _ _ rfl).trans ?_, World.frozen?_alloc_at _ _ _ _ rfl⟩
  rw [e, Array.getElem?_replicate, if_pos hj]; rfl
set_option maxRecDepth 100000 in
set_option maxHeartbeats 8000000 in
theorem there11_walk (w : World) (v : Value) (l : List Cl) (hv : SlCl w v l) :
    Calls Try.prog 5 #[v] w fun e w' => e = .returned (.bool true) ∧ Below w.heap.size w w' := by
  obtain ⟨va, vc, rfl⟩ := hv.slice
  have HN := Lib.hid (anew_any w)
  have HAw := Lib.hid (fun w' => awake11_any w')
  have HV := Lib.hid hv
  clear hv
  by_cases hl : l.length ≤ 60
  · have nl : ¬ (60 : Int) < (l.length : Int) := by omega
    go_enter Try.func5, Try.ntmps5
    go_wp2_with fail
    refine HN.out.mono ?_
    rintro e w1 ⟨a, q, bm, rfl, hA, hb⟩
    have hb1 := newF w1 (.cells #[.bool false, .bool false, .bool false, .bool false, .bool false, .bool false, .bool false, .bool false, .bool false, .bool false, .bool false, .bool false, .bool false, .bool false, .bool false, .bool false, .bool false, .bool false, .bool false, .bool false, .bool false, .bool false, .bool false, .bool false, .bool false, .bool false, .bool false, .bool false, .bool false, .bool false, .bool false, .bool false, .bool false, .bool false, .bool false, .bool false, .bool false, .bool false, .bool false, .bool false, .bool false, .bool false, .bool false, .bool false, .bool false, .bool false, .bool false, .bool false, .bool false, .bool false, .bool false, .bool false, .bool false, .bool false, .bool false, .bool false, .bool false, .bool false, .bool false, .bool false, .bool false] 54)
    have hT := th_new w1
    have HA := Lib.hid (hA.keep hb1)
    have HTf : Hid (¬ FpA a q bm (.slice none 0 0) w1.heap.size) := Lib.hid (fun c => by have := hA.hi _ c; omega)
    have HB := Lib.hid (onF hb hb1)
    have HTw := Lib.hid hb.size
    have HT := Lib.hid hT
    clear hA hb HN hb1 hT
    go_wp2_with fail
    generalize w1.alloc (.cells #[.bool false, .bool false, .bool false, .bool false, .bool false, .bool false, .bool false, .bool false, .bool false, .bool false, .bool false, .bool false, .bool false, .bool false, .bool false, .bool false, .bool false, .bool false, .bool false, .bool false, .bool false, .bool false, .bool false, .bool false, .bool false, .bool false, .bool false, .bool false, .bool false, .bool false, .bool false, .bool false, .bool false, .bool false, .bool false, .bool false, .bool false, .bool false, .bool false, .bool false, .bool false, .bool false, .bool false, .bool false, .bool false, .bool false, .bool false, .bool false, .bool false, .bool false, .bool false, .bool false, .bool false, .bool false, .bool false, .bool false, .bool false, .bool false, .bool false, .bool false, .bool false] 54) = W1 at *
    generalize w1.heap.size = T at *
    go_loopw [5, 6] (fun vn vi wr => ∃ (i : Nat) (lv : Value), i ≤ l.length ∧ vi = .int .i64 (i : Nat) ∧ vn = .int .i64 ((runZ (l.take i)).2 : Nat) ∧ AgV wr w.heap.size a q bm lv (runZ (l.take i)).1 (runZ (l.take i)).2 ∧ ThV wr T (thN (runZ (l.take i)).1) ∧ ¬ FpA a q bm lv T ∧ Below w.heap.size w wr)
      (fun _ vi _ => l.length - (RowKit.intOf vi).toNat)
    case atStart => exact ⟨0, _, Nat.zero_le _, rfl, rfl, HA.out, HT.out, HTf.out, HB.out⟩
    case round =>
      obtain ⟨i, lv, hi, rfl, rfl, hAi, hTi, hTf, hbi⟩ := hrel
      by_cases hlt : i < l.length
      · have p0 : (0 : Int) ≤ (i : Int) := by omega
        have p1 : (i : Int) < (l.length : Int) := by omega
        obtain ⟨g, o, hva, _, hc1, hc2, k0, k1, k2⟩ := HV.out.at hlt
        subst hva
        have HK := Lib.hid (And.intro k0 (And.intro k1 k2))
        have k0 := keepF hbi k0
        have k1 := keepF hbi k1
        have k2 := keepF hbi k2
        have hle := runZ_le (l.take i)
        rw [List.length_take] at hle
        have hle2 : (runZ (l.take i)).2 ≤ i := by omega
        have HDo := Lib.hid (does_any wr hAi (by omega) (by omega) (l.getD i default).k (l.getD i default).d (l.getD i default).t (HV.out.2 i hlt).2.2)
        have HNx := Lib.hid (runZ_next hlt)
        have hz3 := thZ hAi.nos (l.getD i default).k (l.getD i default).d (l.getD i default).t
        have HAi := Lib.hid hAi
        have HBi := Lib.hid hbi
        have HTi := Lib.hid hTi
        have HTf := Lib.hid hTf
        have HLt := Lib.hid hlt
        generalize (l.getD i default).k = ck at *
        generalize (l.getD i default).d = cd at *
        generalize (l.getD i default).t = ct at *
        generalize doZ ck cd ct (runZ (l.take i)).1 (runZ (l.take i)).2 = z at *
        generalize (runZ (l.take i)).1 = L at *
        generalize (runZ (l.take i)).2 = N at *
        rcases z with ⟨⟨xd, xn, xt⟩, ze, zL, zn⟩
        unfold itV at HDo
        dsimp only at HDo HNx hz3
        clear hAi hbi hlt hle hTi hTf
        rcases hz3 with z | z | z | z
        · obtain ⟨z1, z2, z3⟩ := z
          have z2 := z2.symm
          have z3 := z3.symm
          subst z2 z3
          have b1 : (ze != 0) = true := by simpa using z1
          clear z1
          go_wp2_with fail
          refine HDo.out.mono ?_
          rintro e w2 ⟨rfl, lv2, hA2, ho, hf⟩
          have hT2 := HTi.out.off ho HTf.out
          have hTf2 : ¬ FpA a q bm lv2 T := fun c => (hf T c).elim HTf.out (fun h => by have := HTi.out.lt; omega)
          have hB2 := HBi.out.trans (HAi.out.sb (Nat.le_refl _) ho HBi.out.size)
          have hb3 := newF w2 (.cells #[.int .i64 xd, .int .i64 xn, .int .i64 xt] 31)
          have HB2 := Lib.hid (hB2.trans (hb3.mono hB2.size))
          have HA2 := Lib.hid (hA2.keep hb3)
          have HT2 := Lib.hid (hT2.keep hb3)
          have HTf2 := Lib.hid hTf2
          have x1 : (w2.alloc (.cells #[.int .i64 xd, .int .i64 xn, .int .i64 xt] 31)).cell? ⟨w2.heap.size, 1, none⟩ = some (.int .i64 xn) := by rw [World.cell?_alloc_at _ _ _ _ rfl]; rfl
          have k0 := keepF HB2.out HK.out.1
          clear hA2 ho hf HDo hT2 hTf2 hB2 hb3 HAi HBi HTi HTf
          go_wp2_with fail
          go_roundw
          case rel => exact ⟨i + 1, lv2, HLt.out, by go_num, by rw [HNx.out], by rw [HNx.out]; exact HA2.out, by rw [HNx.out]; exact HT2.out, HTf2.out, HB2.out⟩
          case measure => have := HLt.out; simp [RowKit.intOf]; omega
        · obtain ⟨z0, z1, z2, z3, z4⟩ := z
          subst z0 z1 z2 z3
          have HZ4 := Lib.hid z4
          have n60 : (N : Int) ≤ 60 := by omega
          have n00 : (0 : Int) ≤ (N : Int) := by omega
          have q1 : ((N : Int) != (N : Int)) = false := by simp
          clear z4
          go_wp2_with fail
          refine HDo.out.mono ?_
          rintro e w2 ⟨rfl, lv2, hA2, ho, hf⟩
          have hT2 := HTi.out.off ho HTf.out
          have hTf2 : ¬ FpA a q bm lv2 T := fun c => (hf T c).elim HTf.out (fun h => by have := HTi.out.lt; omega)
          have hB2 := HBi.out.trans (HAi.out.sb (Nat.le_refl _) ho HBi.out.size)
          have hb3 := newF w2 (.cells #[.int .i64 xd, .int .i64 (N : Nat), .int .i64 xt] 31)
          have HB2 := Lib.hid (hB2.trans (hb3.mono hB2.size))
          have HA2 := Lib.hid (hA2.keep hb3)
          have HT2 := Lib.hid (hT2.keep hb3)
          have HTf2 := Lib.hid hTf2
          have x1 : (w2.alloc (.cells #[.int .i64 xd, .int .i64 (N : Nat), .int .i64 xt] 31)).cell? ⟨w2.heap.size, 1, none⟩ = some (.int .i64 (N : Nat)) := by rw [World.cell?_alloc_at _ _ _ _ rfl]; rfl
          have k0 := keepF HB2.out HK.out.1
          clear hA2 ho hf HDo hT2 hTf2 hB2 hb3 HAi HBi HTi HTf
          have t0 := (HT2.out N (by omega)).1
          have t1 := (HT2.out N (by omega)).2
          go_wp2_with fail
          go_roundw
          case rel => exact ⟨i + 1, lv2, HLt.out, by go_num, by rw [HNx.out]; first | rfl | go_num, by rw [HNx.out]; exact HA2.out.off (Off.set _ T N _) (fun k hk e => HTf2.out (e ▸ hk)), by rw [HNx.out]; exact HT2.out.set (by omega) HZ4.out, HTf2.out, Below.setCell HB2.out HTw.out _⟩
          case measure => have := HLt.out; simp [RowKit.intOf]; omega
        · obtain ⟨z0, z⟩ := z
          rcases z0 with z0 | z0
          · subst z0
            obtain ⟨z1, z3, m, z4, z5, z6, z7⟩ := z
            have z3 := z3.symm
            subst z1 z3 z4
            have HZ7 := Lib.hid z7
            have m60 : (m : Int) ≤ 60 := by omega
            have m00 : (0 : Int) ≤ (m : Int) := by omega
            have mN : (m : Int) < (N : Int) := by omega
            have g1 : decide (N ≤ m) = false := by simp; omega
            clear z7
            go_wp2_with fail
            refine HDo.out.mono ?_
            rintro e w2 ⟨rfl, lv2, hA2, ho, hf⟩
            have hT2 := HTi.out.off ho HTf.out
            have hTf2 : ¬ FpA a q bm lv2 T := fun c => (hf T c).elim HTf.out (fun h => by have := HTi.out.lt; omega)
            have hB2 := HBi.out.trans (HAi.out.sb (Nat.le_refl _) ho HBi.out.size)
            have hb3 := newF w2 (.cells #[.int .i64 xd, .int .i64 (m : Nat), .int .i64 xt] 31)
            have HB2 := Lib.hid (hB2.trans (hb3.mono hB2.size))
            have HA2 := Lib.hid (hA2.keep hb3)
            have HT2 := Lib.hid (hT2.keep hb3)
            have HTf2 := Lib.hid hTf2
            have x1 : (w2.alloc (.cells #[.int .i64 xd, .int .i64 (m : Nat), .int .i64 xt] 31)).cell? ⟨w2.heap.size, 1, none⟩ = some (.int .i64 (m : Nat)) := by rw [World.cell?_alloc_at _ _ _ _ rfl]; rfl
            have k0 := keepF HB2.out HK.out.1
            clear hA2 ho hf HDo hT2 hTf2 hB2 hb3 HAi HBi HTi HTf
            have t0 := (HT2.out m (by omega)).1
            rw [z6] at t0
            have t1 := (HT2.out m (by omega)).2
            clear z6
            go_wp2_with fail
            go_roundw
            case rel => exact ⟨i + 1, lv2, HLt.out, by go_num, by rw [HNx.out], by rw [HNx.out]; exact HA2.out.off (Off.set _ T m _) (fun k hk e => HTf2.out (e ▸ hk)), by rw [HNx.out]; exact HT2.out.set (by omega) HZ7.out, HTf2.out, Below.setCell HB2.out HTw.out _⟩
            case measure => have := HLt.out; simp [RowKit.intOf]; omega
          · subst z0
            obtain ⟨z1, z3, m, z4, z5, z6, z7⟩ := z
            have z3 := z3.symm
            subst z1 z3 z4
            have HZ7 := Lib.hid z7
            have m60 : (m : Int) ≤ 60 := by omega
            have m00 : (0 : Int) ≤ (m : Int) := by omega
            have mN : (m : Int) < (N : Int) := by omega
            have g1 : decide (N ≤ m) = false := by simp; omega
            clear z7
            go_wp2_with fail
            refine HDo.out.mono ?_
            rintro e w2 ⟨rfl, lv2, hA2, ho, hf⟩
            have hT2 := HTi.out.off ho HTf.out
            have hTf2 : ¬ FpA a q bm lv2 T := fun c => (hf T c).elim HTf.out (fun h => by have := HTi.out.lt; omega)
            have hB2 := HBi.out.trans (HAi.out.sb (Nat.le_refl _) ho HBi.out.size)
            have hb3 := newF w2 (.cells #[.int .i64 xd, .int .i64 (m : Nat), .int .i64 xt] 31)
            have HB2 := Lib.hid (hB2.trans (hb3.mono hB2.size))
            have HA2 := Lib.hid (hA2.keep hb3)
            have HT2 := Lib.hid (hT2.keep hb3)
            have HTf2 := Lib.hid hTf2
            have x1 : (w2.alloc (.cells #[.int .i64 xd, .int .i64 (m : Nat), .int .i64 xt] 31)).cell? ⟨w2.heap.size, 1, none⟩ = some (.int .i64 (m : Nat)) := by rw [World.cell?_alloc_at _ _ _ _ rfl]; rfl
            have k0 := keepF HB2.out HK.out.1
            clear hA2 ho hf HDo hT2 hTf2 hB2 hb3 HAi HBi HTi HTf
            have t0 := (HT2.out m (by omega)).1
            rw [z6] at t0
            have t1 := (HT2.out m (by omega)).2
            clear z6
            go_wp2_with fail
            go_roundw
            case rel => exact ⟨i + 1, lv2, HLt.out, by go_num, by rw [HNx.out], by rw [HNx.out]; exact HA2.out.off (Off.set _ T m _) (fun k hk e => HTf2.out (e ▸ hk)), by rw [HNx.out]; exact HT2.out.set (by omega) HZ7.out, HTf2.out, Below.setCell HB2.out HTw.out _⟩
            case measure => have := HLt.out; simp [RowKit.intOf]; omega
        · obtain ⟨za, zb, zc, z1, z3, z4⟩ := z
          have z3 := z3.symm
          subst z1 z3
          have HZ4 := Lib.hid z4
          have q0 : (ck == 0) = false := beq_false_of_ne za
          have q1 : (ck == 1) = false := beq_false_of_ne zb
          have q2 : (ck == 2) = false := beq_false_of_ne zc
          clear za zb zc z4
          go_wp2_with fail
          refine HDo.out.mono ?_
          rintro e w2 ⟨rfl, lv2, hA2, ho, hf⟩
          have hT2 := HTi.out.off ho HTf.out
          have hTf2 : ¬ FpA a q bm lv2 T := fun c => (hf T c).elim HTf.out (fun h => by have := HTi.out.lt; omega)
          have hB2 := HBi.out.trans (HAi.out.sb (Nat.le_refl _) ho HBi.out.size)
          have hb3 := newF w2 (.cells #[.int .i64 xd, .int .i64 xn, .int .i64 xt] 31)
          have HB2 := Lib.hid (hB2.trans (hb3.mono hB2.size))
          have HA2 := Lib.hid (hA2.keep hb3)
          have HT2 := Lib.hid (hT2.keep hb3)
          have HTf2 := Lib.hid hTf2
          have x1 : (w2.alloc (.cells #[.int .i64 xd, .int .i64 xn, .int .i64 xt] 31)).cell? ⟨w2.heap.size, 1, none⟩ = some (.int .i64 xn) := by rw [World.cell?_alloc_at _ _ _ _ rfl]; rfl
          have k0 := keepF HB2.out HK.out.1
          clear hA2 ho hf HDo hT2 hTf2 hB2 hb3 HAi HBi HTi HTf
          go_wp2_with fail
          go_roundw
          case rel => exact ⟨i + 1, lv2, HLt.out, by go_num, by rw [HNx.out], by rw [HNx.out]; exact HA2.out, by rw [HNx.out]; exact HT2.out.congr HZ4.out, HTf2.out, HB2.out⟩
          case measure => have := HLt.out; simp [RowKit.intOf]; omega
      · have hie : i = l.length := by omega
        subst hie
        rw [List.take_length] at hAi hTi
        rw [List.take_length]
        have p1 : ¬ (l.length : Int) < (l.length : Int) := by omega
        have hle := runZ_le l
        have HIt := Lib.hid (items_any hAi (by omega))
        have HNs := Lib.hid hAi.nos
        have HBi := Lib.hid hbi
        have HTi := Lib.hid hTi
        generalize (runZ l).1 = L at *
        generalize (runZ l).2 = N at *
        clear hAi hbi hTi hTf
        go_wp2_with fail
        refine HIt.out.mono ?_
        rintro e w2 ⟨vs, rfl, ho, hb2⟩
        have HO := Lib.hid ho
        obtain ⟨sa, sc, rfl⟩ := ho.slice
        have HB2 := Lib.hid (HBi.out.trans (hb2.mono HBi.out.size))
        have HT2 := Lib.hid (HTi.out.keep hb2)
        have HTb : Hid (∀ j, (Value.slice sa L.length sc).ownBlock = some j → j ≠ T) := Lib.hid (fun j e c => by have h1 := (HO.out.lt j e).1; have h2 := HTi.out.lt; omega)
        clear ho HIt hb2 HBi HTi
        generalize wr.heap.size = B0 at *
        have nN : (N : Int) ≤ 60 := by omega
        have nL : (L.length : Int) ≤ 60 := by omega
        go_wp2_with fail
        go_loopw [10, 11] (fun vm vi wx => ∃ j : Nat, j ≤ N ∧ vi = .int .i64 (j : Nat) ∧ vm = .int .i64 (cntN (thN L) j : Nat) ∧ wx = w2) (fun _ vi _ => N - (RowKit.intOf vi).toNat)
        case atStart => exact ⟨0, Nat.zero_le _, rfl, rfl, rfl⟩
        case round =>
          obtain ⟨j, hj, rfl, rfl, hw⟩ := hrel
          subst hw
          by_cases hjn : j < N
          · have j1 : (j : Int) < (N : Int) := by omega
            have j0 : (0 : Int) ≤ (j : Int) := by omega
            have j61 : (j : Int) < 61 := by omega
            have HJ := Lib.hid hjn
            have hcl := cntN_le (thN L) j
            have hc9 : (cntN (thN L) j : Int) ≤ 60 := by omega
            have t0 := (HT2.out j (by omega)).1
            have hcn : cntN (thN L) (j + 1) = cntN (thN L) j + (if thN L j = true then 1 else 0) := rfl
            by_cases ht : thN L j = true
            · rw [if_pos ht] at hcn
              rw [ht] at t0
              have HC := Lib.hid hcn
              clear hcn hcl ht hjn hj
              generalize cntN (thN L) j = c1 at *
              go_wp2_with fail
              go_roundw
              case rel => exact ⟨j + 1, HJ.out, by go_num, by rw [HC.out]; go_num, by first | rfl | trivial⟩
              case measure => have := HJ.out; simp [RowKit.intOf]; omega
            · have ht2 : thN L j = false := by simpa using ht
              rw [if_neg ht] at hcn
              rw [ht2] at t0
              have HC := Lib.hid hcn
              clear hcn hcl ht ht2 hjn hj
              generalize cntN (thN L) j = c1 at *
              go_wp2_with fail
              go_roundw
              case rel => exact ⟨j + 1, HJ.out, by go_num, by rw [HC.out]; first | rfl | go_num, by first | rfl | trivial⟩
              case measure => have := HJ.out; simp [RowKit.intOf]; omega
          · obtain rfl : j = N := by omega
            have j1 : ¬ (j : Int) < (j : Int) := by omega
            have hcL := cntN_len HNs.out
            rw [hcL]
            clear hjn hj hcL
            go_wp2_with fail
            go_loopw [12] (fun vi wx => ∃ k : Nat, k ≤ L.length ∧ vi = .int .i64 (k : Nat) ∧ ThV wx T (thN (L.drop k)) ∧ OwnX itL 3 31 wx B0 (.slice sa L.length sc) L ∧ Below w.heap.size w wx) (fun vi _ => L.length - (RowKit.intOf vi).toNat)
            case atStart => exact ⟨0, Nat.zero_le _, rfl, HT2.out, HO.out, HB2.out⟩
            case round =>
              obtain ⟨k, hk, rfl, hTk, hOk, hBk⟩ := hrel
              have HTk := Lib.hid hTk
              have HOk := Lib.hid hOk
              have HBk := Lib.hid hBk
              clear hTk hOk hBk HT2 HB2 HO
              by_cases hkl : k < L.length
              · have k1 : (k : Int) < (L.length : Int) := by omega
                have k0 : (0 : Int) ≤ (k : Int) := by omega
                have HKl := Lib.hid hkl
                have hd : L.drop k = L.getD k default :: L.drop (k + 1) := by
                  rw [List.drop_eq_getElem_cons hkl, List.getD_eq_getElem?_getD, List.getElem?_eq_getElem hkl]; rfl
                have hns : NoS (L.getD k default :: L.drop (k + 1)) j := by
                  rw [← hd]
                  exact ⟨fun y hy z hz => HNs.out.1 y (List.mem_of_mem_drop hy) z (List.mem_of_mem_drop hz), fun y hy => HNs.out.2.1 y (List.mem_of_mem_drop hy), HNs.out.2.2.sublist (List.drop_sublist _ _)⟩
                obtain ⟨m, hm, hmj⟩ := hns.nat (List.mem_cons_self ..)
                have HTl := Lib.hid (fun i => thN_tail hns hm i)
                have t0 := (HTk.out m (by omega)).1
                have t1 := (HTk.out m (by omega)).2
                rw [hd, thN_head hm] at t0
                obtain ⟨g, o, cap, hv, hc1, hc2, hT⟩ : ∃ g o cap, Value.slice sa L.length sc = .slice (some ⟨g, o, none⟩) L.length cap ∧ L.length ≤ cap ∧ cap ≤ 9223372036854775807 ∧ ∀ j, j < L.length → ∀ i c, i < 3 → (itL (L.getD j default))[i]? = some c → wr.cell? ⟨g, o + j * 3 + i, none⟩ = some c := by
                  rcases HOk.out.row (E := itL) (k := 3) itL_len with ⟨e, _⟩ | ⟨_, g, o, cap, h1, h2, h3, h4⟩
                  · rw [e] at hkl; exact absurd hkl (Nat.not_lt_zero _)
                  · exact ⟨g, o, cap, h1, h2, h3, h4⟩
                injection hv with hv1 _ hv3
                subst hv1 hv3
                have y1 := hT k hkl 1 (.int .i64 (m : Nat)) (by omega) (by rw [← hm]; rfl)
                have m61 : (m : Int) ≤ 60 := by omega
                have m0 : (0 : Int) ≤ (m : Int) := by omega
                have mj : (m : Int) < (j : Int) := by omega
                have g1 : decide (j ≤ m) = false := by simp; omega
                rw [hd] at HTk
                have HS := Lib.hid (HTk.out.set (b := false) (by omega) HTl.out)
                clear hT hkl hd hns hm hmj HTl
                go_wp2_with fail
                go_roundw
                case rel => exact ⟨k + 1, HKl.out, by go_num, HS.out, (Off.set _ T m _).row HOk.out (fun g e c => HTb.out g e c), Below.setCell HBk.out HTw.out _⟩
                case measure => have := HKl.out; simp [RowKit.intOf]; omega
              · obtain rfl : k = L.length := by omega
                have k1 : ¬ (L.length : Int) < (L.length : Int) := by omega
                have q1 : ((L.length : Int) == (L.length : Int)) = true := by simp
                clear hkl hk
                go_wp2_with fail
                refine (HAw.out _).mono ?_
                rintro e w8 ⟨rfl, hb8⟩
                have HB8 := Lib.hid (onF HBk.out hb8)
                clear hb8
                go_wp2_with fail
                go_ret
                exact ⟨rfl, HB8.out⟩
  · have nl : (60 : Int) < (l.length : Int) := by omega
    go_enter Try.func5, Try.ntmps5
    go_wp2_with fail
    refine HN.out.mono ?_
    rintro e w1 ⟨a, q, bm, rfl, hA, hb⟩
    have HB := Lib.hid hb
    clear hA hb HN
    go_wp2_with fail
    refine (HAw.out _).mono ?_
    rintro e w2 ⟨rfl, hb2⟩
    have HB2 := Lib.hid (onF HB.out hb2)
    clear hb2 HAw
    go_wp2_with fail
    go_ret
    exact ⟨rfl, HB2.out⟩

end Go.Proofs.Ytkfcaafjnolhgaa

/-
  chattelref05: Size, Below; TermSizes's walk.
-/
import Derived.Test.YtadjhofomabbmaaDoorTrmK
namespace Go.Proofs.YtadjhofomabbmaaDoor
open Go.RowKit Go.Lib
set_option linter.unusedVariables false

theorem sortS_cases (op : Int) : (mkO op = 0 ∧ sortS op = ⟨#[]⟩) ∨ (mkO op ≠ 0 ∧ sortS op = ⟨#[111]⟩) ∨ (mkO op ≠ 0 ∧ sortS op = ⟨#[99]⟩) := by
  unfold sortS
  by_cases h : mkO op = 0
  · exact .inl ⟨h, if_pos h⟩
  · rw [if_neg h]
    have := mk_le op
    have h2 : mkO op = 1 ∨ mkO op = 2 := by omega
    rcases h2 with e | e
    · exact .inr (.inl ⟨h, by rw [e]; rfl⟩)
    · exact .inr (.inr ⟨h, by rw [e]; rfl⟩)

set_option maxHeartbeats 2000000 in
set_option maxRecDepth 100000 in
theorem rszT_any (t : List Nd) (hL : t.length ≤ 1000) (b o cap : Nat) (hcap : t.length ≤ cap) (p : Nat) (hp : p < t.length) (w : World) (hN : NdA w b o t) :
    Calls Tryd.prog 21 #[.slice (some ⟨b, o, none⟩) t.length cap, .int .i64 p] w fun e w' => e = .returned (.int .i64 (szE t p).1) ∧ Below w.heap.size w w' := by
  have HN := Lib.hid hN
  obtain ⟨r1, hr1⟩ : ∃ r, r = (szE t p).1 := ⟨_, rfl⟩
  rw [← hr1]
  have HR := Lib.hid hr1
  clear hN hr1
  go_enter Tryd.func21, Tryd.ntmps21
  go_wp2_with fail
  go_loopw [5, 6] (fun vq vi wx => ∃ q i : Nat, p + i ≤ t.length ∧ q ≤ 1 + 4 * i ∧ vi = .int .i64 i ∧ vq = .int .i64 q ∧ scan 1 (t.drop p) = (scan q (t.drop (p + i))).map (i + ·) ∧ Below w.heap.size w wx) (fun _ vi _ => t.length + 1 - (RowKit.intOf vi).toNat)
  case atStart => exact ⟨1, 0, by omega, by omega, rfl, rfl, by simp, Below.refl _ _⟩
  case round =>
    obtain ⟨q, i, hi, hq, rfl, rfl, hsc, hb⟩ := hrel
    have HS := Lib.hid hsc
    have HB := Lib.hid hb
    have q0 : (q : Int) ≤ 1000000 := by omega
    have i9 : (p : Int) + (i : Int) ≤ 1000 := by omega
    have i8 : (0 : Int) ≤ (p : Int) + (i : Int) := by omega
    by_cases hz : q = 0
    · subst hz
      have HA : Hid ((szE t p).1 = i) := Lib.hid (by unfold szE; rw [HS.out, scan_zero]; rfl)
      clear hsc hb
      go_wp2_with fail
      go_ret
      exact ⟨by rw [HR.out, HA.out]; rfl, HB.out⟩
    · have hq0 : (0 : Int) < (q : Int) := by omega
      obtain ⟨q', rfl⟩ : ∃ q', q = q' + 1 := ⟨q - 1, by omega⟩
      by_cases hlt : p + i < t.length
      · have i1 : ¬ (t.length : Int) ≤ (p : Int) + (i : Int) := by omega
        have i2 : (p : Int) + (i : Int) < (t.length : Int) := by omega
        have hn : ((p : Int) + (i : Int)).toNat = p + i := by omega
        have hnc := (HN.out.keep hb) (p + i) hlt
        obtain ⟨nd, hnd⟩ : ∃ nd, nd = t.getD (p + i) default := ⟨_, rfl⟩
        rw [← hnd] at hnc
        have HD : Hid (t.drop (p + i) = nd :: t.drop (p + i + 1)) := Lib.hid (by rw [hnd]; exact drop_cons hlt)
        have e0 := hnc.c0
        have HRS := Lib.hid (fun w => rsort_any nd.op w)
        have HRK := Lib.hid (fun w => rkids_any nd.op w)
        have hks := kidsS_size nd.op
        have hcn := cn_le nd.op
        generalize kidsS nd.op = ks at *
        clear hsc hb hnd hnc hz
        rcases sortS_cases nd.op with ⟨hm, hs⟩ | ⟨hm, hs⟩ | ⟨hm, hs⟩
        · rw [hs] at HRS
          have HA : Hid ((szE t p).1 = 0) := Lib.hid (by unfold szE; rw [HS.out, HD.out, scan_bad hm]; rfl)
          clear hs hm
          go_wp2_with fail
          refine (HRS.out _).mono ?_
          rintro e w1 ⟨rfl, rfl⟩
          go_wp2_with fail
          go_ret
          exact ⟨by rw [HR.out, HA.out]; rfl, HB.out⟩
        all_goals
          rw [hs] at HRS
          have HSt : Hid (scan (q' + 1) (t.drop (p + i)) = (scan (q' + cnO nd.op) (t.drop (p + i + 1))).map (· + 1)) := Lib.hid (by rw [HD.out, scan_cons hm])
          clear hs hm
          generalize cnO nd.op = c at *
          go_wp2_with fail
          refine (HRS.out _).mono ?_
          rintro e w1 ⟨rfl, rfl⟩
          go_wp2_with fail
          refine (HRK.out _).mono ?_
          rintro e w1 ⟨rfl, hb1⟩
          have HB1 := Lib.hid (onB HB.out hb1)
          clear hb1
          go_wp2_with fail
          go_roundw
          case rel => exact ⟨q' + c, i + 1, by omega, by omega, by go_num, by go_num, by rw [HS.out, HSt.out, show p + (i + 1) = p + i + 1 by omega]; cases scan (q' + c) (t.drop (p + i + 1)) <;> simp <;> omega, HB1.out⟩
          case measure => simp [RowKit.intOf]; omega
      · have i1 : (t.length : Int) ≤ (p : Int) + (i : Int) := by omega
        have HA : Hid ((szE t p).1 = 0) := Lib.hid (by unfold szE; rw [HS.out, show p + i = t.length by omega, List.drop_length]; rfl)
        clear hsc hb hz
        go_wp2_with fail
        go_ret
        exact ⟨by rw [HR.out, HA.out]; rfl, HB.out⟩

set_option maxHeartbeats 4000000 in
set_option maxRecDepth 100000 in
theorem rblT_any (t : List Nd) (hL : t.length ≤ 1000) (b o cap p : Nat) (hcap : t.length ≤ cap) (hT : TmA t p) (w : World) (hN : NdA w b o t) :
    Calls Tryd.prog 23 #[.slice (some ⟨b, o, none⟩) t.length cap, .int .i64 p] w fun e w' => ∃ v, e = .returned v ∧ YtadjhofomabbmaaDoor.Own w' w.heap.size v (plL t p (cnO (opA t p))) ∧ Below w.heap.size w w' := by
  have hp := hT.lt
  have HN := Lib.hid hN
  have HT := Lib.hid hT
  obtain ⟨i0, hi0, hz0, hz1, hz2⟩ := info_parts infoIT
  have hnc := hN p hp
  obtain ⟨nd, hnd⟩ : ∃ nd, nd = t.getD p default := ⟨_, rfl⟩
  rw [← hnd] at hnc
  have HOp : Hid (opA t p = nd.op) := Lib.hid (by rw [hnd]; rfl)
  have HNd := Lib.hid hnd
  have HRK := Lib.hid (fun w => rkids_any nd.op w)
  have hks := kidsS_size nd.op
  have hcn := cn_le nd.op
  obtain ⟨c, hc⟩ : ∃ c, c = cnO (opA t p) := ⟨_, rfl⟩
  have hc2 : cnO nd.op = c := by rw [hc, HOp.out]
  rw [hc2] at hks hcn
  rw [← hc]
  have HKid : Hid (∀ i, i < c → TmA t (plA t (p + 1) i) ∧ p < plA t (p + 1) i ∧ plA t (p + 1) i + szA t (plA t (p + 1) i) ≤ p + szA t p) := Lib.hid (fun i hi => hT.kid (by rw [← hc]; exact hi))
  have hbd := hT.bd
  generalize kidsS nd.op = ks at *
  have hp0 : (0 : Int) ≤ (p : Int) := by omega
  have hp1 : (p : Int) < (t.length : Int) := by omega
  have hp2 : (p : Int) ≤ 1000 := by omega
  clear hN hT hnd hnc hc2 hc
  go_enter Tryd.func23, Tryd.ntmps23
  go_wp2_with fail
  go_loopw [5, 6, 7] (fun vo vk vi wx => ∃ i : Nat, i ≤ c ∧ vi = .int .i64 i ∧ vk = .int .i64 (plA t (p + 1) i) ∧ YtadjhofomabbmaaDoor.Own wx w.heap.size vo (plL t p i) ∧ Below w.heap.size w wx) (fun _ _ vi _ => c - (RowKit.intOf vi).toNat)
  case atStart => exact ⟨0, Nat.zero_le _, rfl, rfl, YtadjhofomabbmaaDoor.Own.nil _ _, Below.refl _ _⟩
  case round =>
    obtain ⟨i, hi, rfl, rfl, hown, hb⟩ := hrel
    have HB := Lib.hid hb
    have hnc := (HN.out.keep hb) p hp
    rw [← HNd.out] at hnc
    have e0 := hnc.c0
    have HO := Lib.hid hown
    clear hb hnc hown
    by_cases hlt : i < c
    · have j0 : (i : Int) < (c : Int) := by omega
      go_wp2_with fail
      refine (HRK.out _).mono ?_
      rintro e w1 ⟨rfl, hb1⟩
      have HB1 := Lib.hid (onB HB.out hb1)
      have hown := HO.out.grown hb1
      have hpl := plL_len t p i
      have HPl := Lib.hid hpl
      have hs1 := HB1.out.size
      have h63 : (plL t p i).length + 1 ≤ maxLen := by unfold maxLen; omega
      have hby : ((plL t p i).length + 1) * 8 ≤ 140737488355328 := by omega
      go_wp2_with (at_builtin; refine wpList_append_own _ rfl _ _ 31 rfl w.heap.size 3 i0 (.int .i64 0) 1 8 Tryd.underlying31 hi0 hz0 hz1 hz2 rfl (by decide) _ _ _ rfl (hown.alloc _) ⟨w1.heap.size, 0, none⟩ 1 1 [.int .i64 ((plA t (p + 1) i : Nat) : Int)] rfl rfl (one_cell w1 _ _) (one_one _) h63 hby (by simp; omega) ?_; intro v' w2 hown' hgrow _)
      have HO2 := Lib.hid (own_snoc hown')
      have HB2 := Lib.hid (below_append HB1.out hown (Nat.le_refl _) hs1 hgrow)
      obtain ⟨tk, hin, hend⟩ := HKid.out i hlt
      have hS := rszT_any t hL b o cap hcap (plA t (p + 1) i) tk.lt w2 (HN.out.keep HB2.out)
      rw [szE_ok tk] at hS
      have HS := Lib.hid hS
      have HPl : Hid (plA t (p + 1) (i + 1) = plA t (p + 1) i + szA t (plA t (p + 1) i)) := Lib.hid rfl
      have HLs : Hid (plL t p (i + 1) = plL t p i ++ [((plA t (p + 1) i : Nat) : Int)]) := Lib.hid (uptoT_succ _ _)
      have m1 : ((plA t (p + 1) i : Nat) : Int) + ((szA t (plA t (p + 1) i) : Nat) : Int) ≤ 1000 := by omega
      have m2 : (0 : Int) ≤ ((plA t (p + 1) i : Nat) : Int) := by omega
      have m3 : (0 : Int) ≤ ((szA t (plA t (p + 1) i) : Nat) : Int) := by omega
      generalize szA t (plA t (p + 1) i) = sz at *
      clear hS hown' hgrow hown tk hin hend hb1 hpl hs1
      refine HS.out.mono ?_
      rintro e w3 ⟨rfl, hb3⟩
      have HB3 := Lib.hid (onB HB2.out hb3)
      have HO3 := Lib.hid (HO2.out.grown hb3)
      clear hb3
      go_wp2_with fail
      go_roundw
      case rel => exact ⟨i + 1, by omega, by go_num, by rw [HPl.out]; go_num, by rw [HLs.out]; exact HO3.out, HB3.out⟩
      case measure => simp [RowKit.intOf]; omega
    · obtain rfl : i = c := by omega
      go_wp2_with fail
      refine (HRK.out _).mono ?_
      rintro e w1 ⟨rfl, hb1⟩
      go_wp2_with fail
      go_ret
      exact ⟨_, rfl, HO.out.grown hb1, onB HB.out hb1⟩

theorem own_len {w : World} {base : Nat} {v : Value} {l : List Int} (h : YtadjhofomabbmaaDoor.Own w base v l) : ∃ a cap, v = .slice a l.length cap := by
  rcases h.reads with ⟨rfl, rfl⟩ | ⟨g, cap, rfl, _⟩
  · exact ⟨_, _, rfl⟩
  · exact ⟨_, _, rfl⟩
/-- Two rows that are the same. -/
theorem ints_own (l : List Int) (hl : l.length ≤ 1000) (v v' : Value) (base base' : Nat) (w : World) (h : YtadjhofomabbmaaDoor.Own w base v l) (h' : YtadjhofomabbmaaDoor.Own w base' v' l) :
    Calls Tryd.prog 22 #[v, v'] w fun e w' => e = .returned (.bool true) ∧ Below w.heap.size w w' := by
  rcases h.reads with ⟨rfl, rfl⟩ | ⟨g, cap, rfl, _, hg, hr⟩
  · rcases h'.reads with ⟨rfl, _⟩ | ⟨g', cap', rfl, _, hg', hr'⟩
    · go_enter Tryd.func22, Tryd.ntmps22
      go_wp2_with fail
      go_loopw [5] (fun v wx => v = .int .i64 0 ∧ wx = w) (fun _ _ => 0)
      case atStart => exact ⟨rfl, rfl⟩
      case round =>
        obtain ⟨rfl, rfl⟩ := hrel
        go_wp2_with fail
        go_ret
        exact ⟨rfl, Below.refl _ _⟩
    · go_enter Tryd.func22, Tryd.ntmps22
      go_wp2_with fail
      go_loopw [5] (fun v wx => v = .int .i64 0 ∧ wx = w) (fun _ _ => 0)
      case atStart => exact ⟨rfl, rfl⟩
      case round =>
        obtain ⟨rfl, rfl⟩ := hrel
        go_wp2_with fail
        go_ret
        exact ⟨rfl, Below.refl _ _⟩
  · rcases h'.reads with ⟨rfl, rfl⟩ | ⟨g', cap', rfl, _, hg', hr'⟩
    · go_enter Tryd.func22, Tryd.ntmps22
      go_wp2_with fail
      go_loopw [5] (fun v wx => v = .int .i64 0 ∧ wx = w) (fun _ _ => 0)
      case atStart => exact ⟨rfl, rfl⟩
      case round =>
        obtain ⟨rfl, rfl⟩ := hrel
        go_wp2_with fail
        go_ret
        exact ⟨rfl, Below.refl _ _⟩
    · refine (ints_row l l g 0 cap g' 0 cap' w hr hr' (by omega) (by omega)).mono fun e w' ⟨he, q, hq⟩ => ⟨?_, ?_⟩
      · rw [he]; simp
      · subst hq; exact below_drewT w q

end Go.Proofs.YtadjhofomabbmaaDoor

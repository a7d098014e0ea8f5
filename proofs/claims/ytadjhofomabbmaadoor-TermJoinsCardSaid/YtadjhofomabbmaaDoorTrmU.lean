/-
  chattellaw05: TermInside's walk.
-/
import Derived.Test.YtadjhofomabbmaaDoorTrmT
namespace Go.Proofs.YtadjhofomabbmaaDoor
open Go.RowKit Go.Lib
set_option linter.unusedVariables false
set_option linter.unusedSimpArgs false

theorem sub_nda {w : World} {b o : Nat} {t : List Nd} (h : NdA w b o t) {p n : Nat} (hp : p + n ≤ t.length) : NdA w b (o + p * 5) (subT t p n) := by
  intro j hj
  rw [subT_len hp] at hj
  rw [subT_get hp hj]
  have := h (p + j) (by omega)
  rwa [show o + (p + j) * 5 = o + p * 5 + j * 5 by omega] at this

set_option maxHeartbeats 2000000 in
set_option maxRecDepth 100000 in
theorem inside_far (a : Option Addr) (len cap : Nat) (h : 100 < len) (hl : len ≤ 9223372036854775807) (w : World) (C : KndW w) :
    Calls Tryd.prog 10 #[.slice a len cap] w fun e w' => e = .returned (.bool true) ∧ Below w.heap.size w w' := by
  have HAw := Lib.hid (awake5_any w C)
  have h1 : (100 : Int) < (len : Int) := by omega
  clear C
  go_enter Tryd.func10, Tryd.ntmps10
  go_wp2_with fail
  refine HAw.out.mono ?_
  rintro e w1 ⟨rfl, hb⟩
  go_wp2_with fail
  go_ret
  exact ⟨rfl, hb⟩
set_option maxHeartbeats 2000000 in
set_option maxRecDepth 100000 in
theorem inside_bad (t : List Nd) (a : Option Addr) (cap : Nat) (h : ¬ 100 < t.length) (hbd : BdT t) (hk : (ofK t).2 ≠ 0) (w : World) (hs : SlT w (.slice a t.length cap) t) (C : KndW w) :
    Calls Tryd.prog 10 #[.slice a t.length cap] w fun e w' => e = .returned (.bool true) ∧ Below w.heap.size w w' := by
  have HAw := Lib.hid (fun w C => awake5_any w C)
  have HO := Lib.hid (tof_any t (by omega) hbd (.slice a t.length cap) w hs C)
  have HC := Lib.hid C
  have hb : (((ofK t).2 : Int) == 0) = false := beq_false_of_ne (by omega)
  have h1 : ¬ (100 : Int) < (t.length : Int) := by omega
  rw [ofK_bad hk] at HO
  clear C hs hbd hk h
  generalize (ofK t).2 = s2 at *
  generalize t.length = len at *
  go_enter Tryd.func10, Tryd.ntmps10
  go_wp2_with fail
  refine HO.out.mono ?_
  rintro e w1 ⟨rfl, hb1⟩
  have HB1 := Lib.hid hb1
  clear hb1
  go_wp2_with fail
  refine (HAw.out _ (HC.out.keep HB1.out)).mono ?_
  rintro e w2 ⟨rfl, hb2⟩
  go_wp2_with fail
  go_ret
  exact ⟨rfl, onB HB1.out hb2⟩

set_option maxHeartbeats 8000000 in
set_option maxRecDepth 100000 in
theorem inside_ok (t : List Nd) (b o cap : Nat) (h0 : 0 < t.length) (h : t.length ≤ 100) (hcap : t.length ≤ cap) (hcm : cap ≤ 9223372036854775807) (hbd : BdT t) (hk : (ofK t).2 = 0) (w : World) (hN : NdA w b o t) (C : KndW w) :
    Calls Tryd.prog 10 #[.slice (some ⟨b, o, none⟩) t.length cap] w fun e w' => e = .returned (.bool true) ∧ Below w.heap.size w w' := by
  have hmx : Tryd.prog.follows .mixedOrders = true := by kernel_rfl
  have HAw := Lib.hid (fun w C => awake5_any w C)
  have hO := tof_any t (by omega) hbd (.slice (some ⟨b, o, none⟩) t.length cap) w (.inr ⟨h0, b, o, cap, rfl, hcap, hcm, hN⟩) C
  rw [ofK_ok hk, hk] at hO
  have HO := Lib.hid hO
  have HC := Lib.hid C
  have HN := Lib.hid hN
  have HBd := Lib.hid hbd
  have HK := Lib.hid hk
  obtain ⟨g1, g2, g3, g4, g5⟩ := ofK_zero hk
  have HAll := Lib.hid g2.all
  have HSrt := Lib.hid g4
  have h1 : ¬ (100 : Int) < (t.length : Int) := by omega
  have h2 : t.length ≤ 1000 := by omega
  have h3 : (0 : Int) < (t.length : Int) := by omega
  have h4 : (t.length : Int) ≤ (cap : Int) := by omega
  have h5 : (t.length : Int) ≤ 100 := by omega
  clear C hN hbd hk hO g1 g2 g3 g4 g5
  go_enter Tryd.func10, Tryd.ntmps10
  go_wp2_with fail
  refine HO.out.mono ?_
  rintro e w1 ⟨rfl, hb1⟩
  have HB1 := Lib.hid hb1
  clear hb1
  go_wp2_with fail
  go_loopw [5] (fun vk wx => ∃ k : Nat, k ≤ t.length ∧ vk = .int .i64 k ∧ Below w.heap.size w wx) (fun vk _ => t.length - (RowKit.intOf vk).toNat)
  case atStart => exact ⟨0, Nat.zero_le _, rfl, HB1.out⟩
  case round =>
    obtain ⟨k, hk, rfl, hb⟩ := hrel
    have HB := Lib.hid hb
    by_cases hlt : k < t.length
    · have i0 : (0 : Int) ≤ (k : Int) := by omega
      have i1 : (k : Int) < (t.length : Int) := by omega
      have tk := HAll.out k hlt
      have hbdk := tk.bd
      have hS := fun w hN C => size_in t (by omega) b o cap hcap hcm k hlt w hN C
      simp only [szE_ok tk] at hS
      have HS := Lib.hid hS
      have hOf := fun w (hN : NdA w b o t) C => tof_any (subT t k (szA t k)) (by rw [subT_len hbdk.2]; omega) (fun p hp => by
        rw [subT_len hbdk.2] at hp
        rw [subT_get hbdk.2 hp]; exact HBd.out _ (by omega)) (.slice (some ⟨b, o + k * 5, none⟩) (szA t k) (cap - k)) w (.inr ⟨by rw [subT_len hbdk.2]; omega, b, o + k * 5, cap - k, by rw [subT_len hbdk.2], by rw [subT_len hbdk.2]; omega, by omega, sub_nda hN hbdk.2⟩) C
      simp only [sub_of HK.out hlt] at hOf
      have HOf := Lib.hid hOf
      have HBl := Lib.hid (fun w hN C => below_ok t h2 b o cap k hcap hcm tk w hN C)
      have HKi := Lib.hid (fun w C => kids_any (opA t k) w C)
      have HSo := Lib.hid (fun w C => tsort_any (opA t k) w C)
      obtain ⟨c, hc⟩ : ∃ c, c = cnO (opA t k) := ⟨_, rfl⟩
      have hcn := cn_le (opA t k)
      have hl := plL_len t k c
      have HAt := Lib.hid (fun i hi => plL_at t k c i hi)
      have HKid : Hid (∀ i, i < c → TmA t (plA t (k + 1) i) ∧ k < plA t (k + 1) i ∧ plA t (k + 1) i + szA t (plA t (k + 1) i) ≤ k + szA t k) := Lib.hid (fun i hi => tk.kid (by rw [← hc]; exact hi))
      have HSk : Hid (∀ i, i < c → mkO (opA t (plA t (k + 1) i)) = kdC (ixO (opA t k)) i) := Lib.hid (fun i hi => HSrt.out k hlt i (by rw [← hc]; exact hi))
      have HOpk : Hid (∀ wx, Below w.heap.size w wx → wx.cell? ⟨b, o + k * 5, none⟩ = some (.int .i64 (opA t k))) := Lib.hid (fun wx hb => (HN.out.keep hb k hlt).c0)
      rw [← hc] at HBl HKi hcn
      obtain ⟨n, hn⟩ : ∃ n, n = szA t k := ⟨_, rfl⟩
      rw [← hn] at HS HOf hbdk HKid
      generalize mkO (opA t k) = mk at *
      generalize opA t k = opk at *
      generalize plL t k c = L at *
      have n1 : ¬ (n : Int) < 1 := by omega
      have n2 : ¬ (t.length : Int) < (k : Int) + (n : Int) := by omega
      have n3 : (0 : Int) ≤ (k : Int) + (n : Int) := by omega
      have n4 : (k : Int) ≤ (k : Int) + (n : Int) := by omega
      have n5 : (k : Int) + (n : Int) ≤ (cap : Int) := by omega
      have n6 : ((k : Int) + (n : Int)).toNat = k + n := by omega
      have n7 : k + n - k = n := by omega
      have n8 : (k : Int) + (n : Int) ≤ 100 := by omega
      clear hS hOf tk hb hc hn
      go_wp2_with fail
      refine (HS.out _ (HN.out.keep HB.out) (HC.out.keep HB.out)).mono ?_
      rintro e w2 ⟨rfl, hb2⟩
      have HB2 := Lib.hid (onB HB.out hb2)
      clear hb2
      go_wp2_with fail
      refine (HOf.out _ (HN.out.keep HB2.out) (HC.out.keep HB2.out)).mono ?_
      rintro e w3 ⟨rfl, hb3⟩
      have HB3 := Lib.hid (onB HB2.out hb3)
      clear hb3
      go_wp2_with fail
      refine (HBl.out _ (HN.out.keep HB3.out) (HC.out.keep HB3.out)).mono ?_
      rintro e w4 ⟨v, rfl, hown, hb4⟩
      have HB4 := Lib.hid (onB HB3.out hb4)
      have HO4 := Lib.hid hown
      obtain ⟨a, cp, hv⟩ := own_len hown
      subst hv
      rw [hl]
      have e4 := HOpk.out w4 HB4.out
      clear hb4 hown
      go_wp2_with fail
      refine (HKi.out _ (HC.out.keep HB4.out)).mono ?_
      rintro e w5 ⟨kb, kcap, rfl, hkb0, hkb1, hkc, hb5⟩
      have HB5 := Lib.hid (onB HB4.out hb5)
      have HO5 := Lib.hid (HO4.out.grown hb5)
      have HKc := Lib.hid hkc
      have e5 := HOpk.out w5 HB5.out
      clear hb5 hkc e4
      go_wp2_with fail
      refine (HSo.out _ (HC.out.keep HB5.out)).mono ?_
      rintro e w6 ⟨rfl, hb6⟩
      have HB6 := Lib.hid (onB HB5.out hb6)
      have HO6 := Lib.hid (HO5.out.grown hb6)
      have HKc6 : Hid (∀ j, j < c → w6.cell? ⟨kb, 1 + j, none⟩ = some (.int .i64 (kdC (ixO opk) j))) := Lib.hid (fun j hj => keepT hb6 (HKc.out j hj))
      clear hb6 e5
      go_wp2_with fail
      go_loopw [13] (fun vj wx => ∃ j : Nat, j ≤ c ∧ vj = .int .i64 j ∧ Below w6.heap.size w6 wx) (fun vj _ => c - (RowKit.intOf vj).toNat)
      case atStart => exact ⟨0, Nat.zero_le _, rfl, Below.refl _ _⟩
      case round =>
        obtain ⟨j, hj, rfl, hb⟩ := hrel
        have HBj := Lib.hid (onB HB6.out hb)
        have HBr := Lib.hid hb
        by_cases hltj : j < c
        · have j0 : (0 : Int) ≤ (j : Int) := by omega
          have j1 : (j : Int) < (c : Int) := by omega
          rcases (HO6.out.grown hb).reads with ⟨_, hx⟩ | ⟨g, cq, hv, _, _, hrow⟩
          · rw [hx] at hl; simp at hl; omega
          · injection hv with q1 q2 q3
            subst q1 q3
            have f1 := hrow j (by omega)
            rw [HAt.out j hltj, Nat.zero_add] at f1
            obtain ⟨kT, kin, kend⟩ := HKid.out j hltj
            have hkTb := kT.bd
            have f2 := (HN.out.keep HBj.out _ kT.lt).c0
            have hopP : (t.getD (plA t (k + 1) j) default).op = opA t (plA t (k + 1) j) := rfl
            rw [hopP] at f2
            have f3 := keepT hb (HKc6.out j hltj)
            rw [← HSk.out j hltj] at f3
            have HSP := Lib.hid (fun w C => tsort_any (opA t (plA t (k + 1) j)) w C)
            have p0 : (0 : Int) ≤ ((plA t (k + 1) j : Nat) : Int) := by omega
            have p1 : ((plA t (k + 1) j : Nat) : Int) < (t.length : Int) := by omega
            have d3 : k < plA t (k + 1) j := by omega
            have d4 : plA t (k + 1) j < k + n := by omega
            have d5 : ¬ (k + n ≤ plA t (k + 1) j) := by omega
            have d6 : ((plA t (k + 1) j : Nat) : Int) < (k : Int) + (n : Int) := by omega
            have d1 : decide (((plA t (k + 1) j : Nat) : Int) ≤ (k : Int)) = false := decide_eq_false (by omega)
            have d2 : decide ((k : Int) + (n : Int) ≤ ((plA t (k + 1) j : Nat) : Int)) = false := decide_eq_false (by omega)
            have hwp : IntKind.i64.wrap ((k : Int) + (n : Int)) = (k : Int) + (n : Int) := IntWalk.i64_in _ (by omega)
            have HBw := Lib.hid hb
            generalize mkO (opA t (plA t (k + 1) j)) = mP at HSP f3
            generalize opA t (plA t (k + 1) j) = opP at HSP f2
            generalize plA t (k + 1) j = P at f1 f2 p0 p1 d1 d2 d3 d4 d5 d6
            clear hb hrow kT kin kend hkTb hopP q2
            go_wp2_with fail
            refine wp_region_held_drew (S := fun w' => w'.cell? ⟨g, j, none⟩ = some (.int .i64 P) ∧ w'.cell? ⟨b, o + P * 5, none⟩ = some (.int .i64 opP) ∧ w'.cell? ⟨kb, 1 + j, none⟩ = some (.int .i64 mP) ∧ Below wr.heap.size wr w') hmx ⟨f1, f2, f3, Below.drew (Below.refl _ _)⟩ (fun hS0 => ?_)
            refine wpAnyH_take (i := 0) (v := .slice (some ⟨g, 0, none⟩) c cp) rfl (by kernel_rfl) (by kernel_rfl) (by kernel_rfl) (fun _ _ _ h => h) (Or.inl ⟨by rfl, fun w' hS => ?_⟩) (by assumption) ?_
            · obtain ⟨q1, q2, q3, q4⟩ := hS
              go_simp
            simp only [Act.put, List.setIfInBounds_toArray, List.set_cons_zero, List.set_cons_succ]
            refine wpAnyH_take (i := 1) (v := .int .i64 (j : Int)) rfl (by kernel_rfl) (by kernel_rfl) (by kernel_rfl) (fun _ _ _ h => h) (Or.inl ⟨by rfl, fun w' hS => ?_⟩) (by assumption) ?_
            · obtain ⟨q1, q2, q3, q4⟩ := hS
              go_simp
            simp only [Act.put, List.setIfInBounds_toArray, List.set_cons_zero, List.set_cons_succ]
            refine wpAnyH_take (i := 2) (v := .pointer (some ⟨g, j, none⟩)) rfl (by kernel_rfl) (by kernel_rfl) (by kernel_rfl) (fun _ _ _ h => h) (Or.inl ⟨by rfl, fun w' hS => ?_⟩) (by assumption) ?_
            · obtain ⟨q1, q2, q3, q4⟩ := hS
              go_simp
            simp only [Act.put, List.setIfInBounds_toArray, List.set_cons_zero, List.set_cons_succ]
            refine wpAnyH_take (i := 3) (v := .int .i64 (P : Int)) rfl (by kernel_rfl) (by kernel_rfl) (by kernel_rfl) (fun _ _ _ h => h) (Or.inl ⟨by rfl, fun w' hS => ?_⟩) (by assumption) ?_
            · obtain ⟨q1, q2, q3, q4⟩ := hS
              go_simp
            simp only [Act.put, List.setIfInBounds_toArray, List.set_cons_zero, List.set_cons_succ]
            refine wpAnyH_take (i := 4) (v := .int .i64 (k : Int)) rfl (by kernel_rfl) (by kernel_rfl) (by kernel_rfl) (fun _ _ _ h => h) (Or.inl ⟨by rfl, fun w' hS => ?_⟩) (by assumption) ?_
            · obtain ⟨q1, q2, q3, q4⟩ := hS
              go_simp
            simp only [Act.put, List.setIfInBounds_toArray, List.set_cons_zero, List.set_cons_succ]
            refine wpAnyH_take (i := 5) (v := .bool false) rfl (by kernel_rfl) (by kernel_rfl) (by kernel_rfl) (fun _ _ _ h => h) (Or.inl ⟨by rfl, fun w' hS => ?_⟩) (by assumption) ?_
            · obtain ⟨q1, q2, q3, q4⟩ := hS
              go_simp
            simp only [Act.put, List.setIfInBounds_toArray, List.set_cons_zero, List.set_cons_succ]
            refine wpAnyH_take (i := 6) (v := .bool false) rfl (by kernel_rfl) (by kernel_rfl) (by kernel_rfl) (fun _ _ _ h => h) (Or.inl ⟨by rfl, fun w' hS => ?_⟩) (by assumption) ?_
            · obtain ⟨q1, q2, q3, q4⟩ := hS
              go_simp
            simp only [Act.put, List.setIfInBounds_toArray, List.set_cons_zero, List.set_cons_succ]
            refine wpAnyH_take (i := 7) (v := .slice (some ⟨g, 0, none⟩) c cp) rfl (by kernel_rfl) (by kernel_rfl) (by kernel_rfl) (fun _ _ _ h => h) (Or.inl ⟨by kernel_rfl, fun w' hS => ?_⟩) (by assumption) ?_
            · obtain ⟨q1, q2, q3, q4⟩ := hS
              go_simp
            simp only [Act.put, List.setIfInBounds_toArray, List.set_cons_zero, List.set_cons_succ]
            refine wpAnyH_take (i := 8) (v := .int .i64 (j : Int)) rfl (by kernel_rfl) (by kernel_rfl) (by kernel_rfl) (fun _ _ _ h => h) (Or.inl ⟨by kernel_rfl, fun w' hS => ?_⟩) (by assumption) ?_
            · obtain ⟨q1, q2, q3, q4⟩ := hS
              go_simp
            simp only [Act.put, List.setIfInBounds_toArray, List.set_cons_zero, List.set_cons_succ]
            refine wpAnyH_take (i := 9) (v := .pointer (some ⟨g, j, none⟩)) rfl (by kernel_rfl) (by kernel_rfl) (by kernel_rfl) (fun _ _ _ h => h) (Or.inl ⟨by kernel_rfl, fun w' hS => ?_⟩) (by assumption) ?_
            · obtain ⟨q1, q2, q3, q4⟩ := hS
              go_simp
            simp only [Act.put, List.setIfInBounds_toArray, List.set_cons_zero, List.set_cons_succ]
            refine wpAnyH_take (i := 10) (v := .int .i64 (P : Int)) rfl (by kernel_rfl) (by kernel_rfl) (by kernel_rfl) (fun _ _ _ h => h) (Or.inl ⟨by kernel_rfl, fun w' hS => ?_⟩) (by assumption) ?_
            · obtain ⟨q1, q2, q3, q4⟩ := hS
              go_simp
            simp only [Act.put, List.setIfInBounds_toArray, List.set_cons_zero, List.set_cons_succ]
            refine wpAnyH_take (i := 11) (v := .int .i64 (k : Int)) rfl (by kernel_rfl) (by kernel_rfl) (by kernel_rfl) (fun _ _ _ h => h) (Or.inl ⟨by kernel_rfl, fun w' hS => ?_⟩) (by assumption) ?_
            · obtain ⟨q1, q2, q3, q4⟩ := hS
              go_simp
            simp only [Act.put, List.setIfInBounds_toArray, List.set_cons_zero, List.set_cons_succ]
            refine wpAnyH_take (i := 12) (v := .int .i64 (n : Int)) rfl (by kernel_rfl) (by kernel_rfl) (by kernel_rfl) (fun _ _ _ h => h) (Or.inl ⟨by kernel_rfl, fun w' hS => ?_⟩) (by assumption) ?_
            · obtain ⟨q1, q2, q3, q4⟩ := hS
              go_simp
            simp only [Act.put, List.setIfInBounds_toArray, List.set_cons_zero, List.set_cons_succ]
            refine wpAnyH_take (i := 13) (v := .int .i64 ((k : Int) + (n : Int))) rfl (by kernel_rfl) (by kernel_rfl) (by kernel_rfl) (fun _ _ _ h => h) (Or.inl ⟨by kernel_rfl, fun w' hS => ?_⟩) (by assumption) ?_
            · obtain ⟨q1, q2, q3, q4⟩ := hS
              go_simp
            simp only [Act.put, List.setIfInBounds_toArray, List.set_cons_zero, List.set_cons_succ]
            refine wpAnyH_take (i := 14) (v := .bool false) rfl (by kernel_rfl) (by kernel_rfl) (by kernel_rfl) (fun _ _ _ h => h) (Or.inl ⟨by kernel_rfl, fun w' hS => ?_⟩) (by assumption) ?_
            · obtain ⟨q1, q2, q3, q4⟩ := hS
              go_simp
            simp only [Act.put, List.setIfInBounds_toArray, List.set_cons_zero, List.set_cons_succ]
            refine wpAnyH_take (i := 15) (v := .bool false) rfl (by kernel_rfl) (by kernel_rfl) (by kernel_rfl) (fun _ _ _ h => h) (Or.inl ⟨by rfl, fun w' hS => ?_⟩) (by assumption) ?_
            · obtain ⟨q1, q2, q3, q4⟩ := hS
              go_simp
            simp only [Act.put, List.setIfInBounds_toArray, List.set_cons_zero, List.set_cons_succ]
            refine wpAnyH_take (i := 16) (v := .bool false) rfl (by kernel_rfl) (by kernel_rfl) (by kernel_rfl) (fun _ _ _ h => h) (Or.inl ⟨by rfl, fun w' hS => ?_⟩) (by assumption) ?_
            · obtain ⟨q1, q2, q3, q4⟩ := hS
              go_simp
            simp only [Act.put, List.setIfInBounds_toArray, List.set_cons_zero, List.set_cons_succ]
            refine wpAnyH_take (i := 17) (v := .slice (some ⟨b, o, none⟩) t.length cap) rfl (by kernel_rfl) (by kernel_rfl) (by kernel_rfl) (fun _ _ _ h => h) (Or.inl ⟨by kernel_rfl, fun w' hS => ?_⟩) (by assumption) ?_
            · obtain ⟨q1, q2, q3, q4⟩ := hS
              go_simp
            simp only [Act.put, List.setIfInBounds_toArray, List.set_cons_zero, List.set_cons_succ]
            refine wpAnyH_take (i := 18) (v := .slice (some ⟨g, 0, none⟩) c cp) rfl (by kernel_rfl) (by kernel_rfl) (by kernel_rfl) (fun _ _ _ h => h) (Or.inl ⟨by kernel_rfl, fun w' hS => ?_⟩) (by assumption) ?_
            · obtain ⟨q1, q2, q3, q4⟩ := hS
              go_simp
            simp only [Act.put, List.setIfInBounds_toArray, List.set_cons_zero, List.set_cons_succ]
            refine wpAnyH_take (i := 19) (v := .int .i64 (j : Int)) rfl (by kernel_rfl) (by kernel_rfl) (by kernel_rfl) (fun _ _ _ h => h) (Or.inl ⟨by kernel_rfl, fun w' hS => ?_⟩) (by assumption) ?_
            · obtain ⟨q1, q2, q3, q4⟩ := hS
              go_simp
            simp only [Act.put, List.setIfInBounds_toArray, List.set_cons_zero, List.set_cons_succ]
            refine wpAnyH_take (i := 20) (v := .pointer (some ⟨g, j, none⟩)) rfl (by kernel_rfl) (by kernel_rfl) (by kernel_rfl) (fun _ _ _ h => h) (Or.inl ⟨by kernel_rfl, fun w' hS => ?_⟩) (by assumption) ?_
            · obtain ⟨q1, q2, q3, q4⟩ := hS
              go_simp
            simp only [Act.put, List.setIfInBounds_toArray, List.set_cons_zero, List.set_cons_succ]
            refine wpAnyH_take (i := 21) (v := .int .i64 (P : Int)) rfl (by kernel_rfl) (by kernel_rfl) (by kernel_rfl) (fun _ _ _ h => h) (Or.inl ⟨by kernel_rfl, fun w' hS => ?_⟩) (by assumption) ?_
            · obtain ⟨q1, q2, q3, q4⟩ := hS
              go_simp
            simp only [Act.put, List.setIfInBounds_toArray, List.set_cons_zero, List.set_cons_succ]
            refine wpAnyH_take (i := 22) (v := .pointer (some ⟨b, o + P * 5, none⟩)) rfl (by kernel_rfl) (by kernel_rfl) (by kernel_rfl) (fun _ _ _ h => h) (Or.inl ⟨by kernel_rfl, fun w' hS => ?_⟩) (by assumption) ?_
            · obtain ⟨q1, q2, q3, q4⟩ := hS
              go_simp
            simp only [Act.put, List.setIfInBounds_toArray, List.set_cons_zero, List.set_cons_succ]
            refine wpAnyH_take (i := 23) (v := .pointer (some ⟨b, o + P * 5, none⟩)) rfl (by kernel_rfl) (by kernel_rfl) (by kernel_rfl) (fun _ _ _ h => h) (Or.inl ⟨by kernel_rfl, fun w' hS => ?_⟩) (by assumption) ?_
            · obtain ⟨q1, q2, q3, q4⟩ := hS
              go_simp
            simp only [Act.put, List.setIfInBounds_toArray, List.set_cons_zero, List.set_cons_succ]
            refine wpAnyH_take (i := 24) (v := .int .i64 (opP : Int)) rfl (by kernel_rfl) (by kernel_rfl) (by kernel_rfl) (fun _ _ _ h => h) (Or.inl ⟨by kernel_rfl, fun w' hS => ?_⟩) (by assumption) ?_
            · obtain ⟨q1, q2, q3, q4⟩ := hS
              go_simp
            simp only [Act.put, List.setIfInBounds_toArray, List.set_cons_zero, List.set_cons_succ]
            refine wpAnyH_take (i := 26) (v := .slice (some ⟨kb, 1, none⟩) c kcap) rfl (by kernel_rfl) (by kernel_rfl) (by kernel_rfl) (fun _ _ _ h => h) (Or.inl ⟨by kernel_rfl, fun w' hS => ?_⟩) (by assumption) ?_
            · obtain ⟨q1, q2, q3, q4⟩ := hS
              go_simp
            simp only [Act.put, List.setIfInBounds_toArray, List.set_cons_zero, List.set_cons_succ]
            refine wpAnyH_take (i := 27) (v := .int .i64 (j : Int)) rfl (by kernel_rfl) (by kernel_rfl) (by kernel_rfl) (fun _ _ _ h => h) (Or.inl ⟨by kernel_rfl, fun w' hS => ?_⟩) (by assumption) ?_
            · obtain ⟨q1, q2, q3, q4⟩ := hS
              go_simp
            simp only [Act.put, List.setIfInBounds_toArray, List.set_cons_zero, List.set_cons_succ]
            refine wpAnyH_take (i := 28) (v := .pointer (some ⟨kb, 1 + j, none⟩)) rfl (by kernel_rfl) (by kernel_rfl) (by kernel_rfl) (fun _ _ _ h => h) (Or.inl ⟨by kernel_rfl, fun w' hS => ?_⟩) (by assumption) ?_
            · obtain ⟨q1, q2, q3, q4⟩ := hS
              go_simp
            simp only [Act.put, List.setIfInBounds_toArray, List.set_cons_zero, List.set_cons_succ]
            refine wpAnyH_take (i := 29) (v := .int .i64 (mP : Int)) rfl (by kernel_rfl) (by kernel_rfl) (by kernel_rfl) (fun _ _ _ h => h) (Or.inl ⟨by kernel_rfl, fun w' hS => ?_⟩) (by assumption) ?_
            · obtain ⟨q1, q2, q3, q4⟩ := hS
              go_simp
            simp only [Act.put, List.setIfInBounds_toArray, List.set_cons_zero, List.set_cons_succ]
            refine wpAnyH_ready (rs := [25]) (by kernel_rfl) (by simp) (AllReadyH.cons rfl (fun K hK => ?_) AllReadyH.nil)
            go_simp
            refine (HSP.out _ ((HC.out.keep HBj.out).keep (Below.drew (Below.refl _ _)))).mono ?_
            rintro e w7 ⟨rfl, hb7⟩
            have f1' := keepT (w := wr.drew) hb7 f1
            have f2' := keepT (w := wr.drew) hb7 f2
            have f3' := keepT (w := wr.drew) hb7 f3
            have hb' := undrewT hb7
            clear hb7
            refine hK _ _ ⟨f1', f2', f3', hb'⟩ (fun hS1 => ?_)
            clear hK
            refine wpAnyH_take (i := 30) (v := .bool false) rfl (by kernel_rfl) (by kernel_rfl) (by kernel_rfl) (fun _ _ _ h => h) (Or.inl ⟨by kernel_rfl, fun w' hS => ?_⟩) (by assumption) ?_
            · obtain ⟨q1, q2, q3, q4⟩ := hS
              go_simp
            simp only [Act.put, List.setIfInBounds_toArray, List.set_cons_zero, List.set_cons_succ]
            refine wpAnyH_take (i := 31) (v := .bool false) rfl (by kernel_rfl) (by kernel_rfl) (by kernel_rfl) (fun _ _ _ h => h) (Or.inl ⟨by rfl, fun w' hS => ?_⟩) (by assumption) ?_
            · obtain ⟨q1, q2, q3, q4⟩ := hS
              go_simp
            simp only [Act.put, List.setIfInBounds_toArray, List.set_cons_zero, List.set_cons_succ]
            refine wpAnyH_done (by kernel_rfl) ?_ _
            clear hS0 hS1 f1 f2 f3 f1' f2' f3'
            have HB7 := Lib.hid (onB HBw.out hb')
            clear hb'
            go_wp2_with fail
            go_roundw
            case rel => exact ⟨j + 1, by omega, by go_num, HB7.out⟩
            case measure => simp [RowKit.intOf]; omega
        · obtain rfl : j = c := by omega
          clear hb
          go_wp2_with fail
          go_roundw
          case rel => exact ⟨k + 1, by omega, by go_num, HBj.out⟩
          case measure => simp [RowKit.intOf]; omega
    · obtain rfl : k = t.length := by omega
      have e0 := (HN.out.keep hb 0 h0).c0
      have hop : (t.getD 0 default).op = opA t 0 := rfl
      rw [hop, show o + 0 * 5 = o by omega] at e0
      have HSo := Lib.hid (fun w C => tsort_any (opA t 0) w C)
      generalize mkO (opA t 0) = mk at *
      generalize opA t 0 = op0 at *
      clear hb hop
      go_wp2_with fail
      refine (HSo.out _ (HC.out.keep HB.out)).mono ?_
      rintro e w2 ⟨rfl, hb2⟩
      have HB2 := Lib.hid (onB HB.out hb2)
      clear hb2
      go_wp2_with fail
      refine (HAw.out _ (HC.out.keep HB2.out)).mono ?_
      rintro e w3 ⟨rfl, hb3⟩
      go_wp2_with fail
      go_ret
      exact ⟨rfl, onB HB2.out hb3⟩

theorem inside_walk (t : List Nd) (a : Option Addr) (cap : Nat) (hl : t.length ≤ 9223372036854775807) (hbd : BdT t) (w : World) (hs : SlT w (.slice a t.length cap) t) (C : KndW w) :
    Calls Tryd.prog 10 #[.slice a t.length cap] w fun e w' => e = .returned (.bool true) ∧ Below w.heap.size w w' := by
  by_cases h : 100 < t.length
  · exact inside_far a _ cap h hl w C
  · by_cases hk : (ofK t).2 = 0
    · have h0 : t ≠ [] := fun e => by
        subst e
        exact absurd hk (by decide)
      rcases id hs with ⟨e, _⟩ | ⟨hp, b, o, c, hv, hc1, hc2, hN⟩
      · exact absurd e h0
      · injection hv with q1 q2 q3
        subst q1 q3
        exact inside_ok t b o _ hp (by omega) hc1 hc2 hbd hk w hN C
    · exact inside_bad t a cap h hbd hk w hs C

end Go.Proofs.YtadjhofomabbmaaDoor

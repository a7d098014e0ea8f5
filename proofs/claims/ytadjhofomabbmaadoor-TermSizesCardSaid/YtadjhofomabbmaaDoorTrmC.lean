/-
  Package term: Size: what it answers.
-/
import Derived.Test.YtadjhofomabbmaaDoorTrmB
namespace Go.Proofs.YtadjhofomabbmaaDoor
open Go.RowKit Go.Lib
set_option linter.unusedVariables false

/-- A node's cells. -/
structure NdC (w : World) (b p : Nat) (n : Nd) : Prop where
  c0 : w.cell? ⟨b, p, none⟩ = some (.int .i64 n.op)
  c1 : w.cell? ⟨b, p + 1, none⟩ = some (.int .i64 n.a)
  c2 : w.cell? ⟨b, p + 2, none⟩ = some (.int .i64 n.b)
  c3 : w.cell? ⟨b, p + 3, none⟩ = some (.int .i64 n.num)
  c4 : w.cell? ⟨b, p + 4, none⟩ = some (.int .i64 n.den)
theorem NdC.keep {w w' : World} {b p : Nat} {n : Nd} (h : NdC w b p n) (hb : Below w.heap.size w w') : NdC w' b p n :=
  ⟨keepT hb h.c0, keepT hb h.c1, keepT hb h.c2, keepT hb h.c3, keepT hb h.c4⟩
/-- A row of nodes. -/
def NdA (w : World) (b o : Nat) (t : List Nd) : Prop := ∀ j, j < t.length → NdC w b (o + j * 5) (t.getD j default)
theorem NdA.keep {w w' : World} {b o : Nat} {t : List Nd} (h : NdA w b o t) (hb : Below w.heap.size w w') : NdA w' b o t := fun j hj => (h j hj).keep hb

/-- What Size answers. -/
def szE (t : List Nd) (p : Nat) : Nat × Nat := match scan 1 (t.drop p) with
  | some n => (n, 0)
  | none => (0, 13)
theorem szE_ok {t : List Nd} {p : Nat} (h : TmA t p) : szE t p = (szA t p, 0) := by unfold szE; rw [h.eq]
theorem szE_no {t : List Nd} {p : Nat} (h : ¬ TmA t p) : szE t p = (0, 13) := by
  unfold szE
  cases e : scan 1 (t.drop p) with
  | none => rfl
  | some n => exact absurd ⟨n, e⟩ h

theorem ret_twoT {a b c d : Int} (h : a = c) (h' : b = d) : Ending.returned (.tuple #[.int .i64 a, .int .i64 b]) = .returned (.tuple #[.int .i64 c, .int .i64 d]) := by rw [h, h']
theorem size_out (a : Option Addr) (len cap : Nat) (hl : len ≤ 9223372036854775807) (p : Int) (h : p < 0 ∨ (len : Int) ≤ p) (w : World) : Calls Tryd.prog 19 #[.slice a len cap, .int .i64 p] w fun e w' => e = .returned (.tuple #[.int .i64 0, .int .i64 10]) ∧ w = w' := by
  rcases h with h | h
  · go_enter Tryd.func19, Tryd.ntmps19
    go_wp2_with fail
    go_ret2
    exact ⟨rfl, rfl⟩
  · have h0 : 0 ≤ p := by omega
    go_enter Tryd.func19, Tryd.ntmps19
    go_wp2_with fail
    go_ret2
    exact ⟨rfl, rfl⟩

set_option maxHeartbeats 2000000 in
set_option maxRecDepth 100000 in
theorem size_in (t : List Nd) (hL : t.length ≤ 100000) (b o cap : Nat) (hcap : t.length ≤ cap) (hcm : cap ≤ 9223372036854775807) (p : Nat) (hp : p < t.length) (w : World) (hN : NdA w b o t) (C : KndW w) :
    Calls Tryd.prog 19 #[.slice (some ⟨b, o, none⟩) t.length cap, .int .i64 p] w fun e w' => e = .returned (.tuple #[.int .i64 (szE t p).1, .int .i64 (szE t p).2]) ∧ Below w.heap.size w w' := by
  have HN := Lib.hid hN
  have HC := Lib.hid C
  obtain ⟨r1, hr1⟩ : ∃ r, r = (szE t p).1 := ⟨_, rfl⟩
  obtain ⟨r2, hr2⟩ : ∃ r, r = (szE t p).2 := ⟨_, rfl⟩
  rw [← hr1, ← hr2]
  have HR : Hid (r1 = (szE t p).1 ∧ r2 = (szE t p).2) := Lib.hid ⟨hr1, hr2⟩
  clear hr1 hr2
  have hp0 : (0 : Int) ≤ (p : Int) := by omega
  have hp1 : (p : Int) < (t.length : Int) := by omega
  have hp2 : (p : Int) ≤ (t.length : Int) := by omega
  have hp3 : ¬ (t.length : Int) ≤ (p : Int) := by omega
  have hc1 : (t.length : Int) ≤ (cap : Int) := by omega
  clear hN C
  go_enter Tryd.func19, Tryd.ntmps19
  go_wp2_with fail
  obtain ⟨m, hm⟩ : ∃ m, m = t.length - p := ⟨_, rfl⟩
  rw [← hm]
  have HM := Lib.hid hm
  clear hp0 hp1 hp2 hp3 hc1 hm
  go_loopw [6, 22] (fun vo vi wx => ∃ q i : Nat, i ≤ m ∧ 1 ≤ q ∧ q ≤ 1 + 4 * i ∧ vi = .int .i64 i ∧ vo = .int .i64 q ∧ scan 1 (t.drop p) = (scan q (t.drop (p + i))).map (i + ·) ∧ Below w.heap.size w wx) (fun _ vi _ => m - (RowKit.intOf vi).toNat)
  case atStart => exact ⟨1, 0, Nat.zero_le _, Nat.le_refl _, by omega, rfl, rfl, by simp, Below.refl _ _⟩
  case round =>
    obtain ⟨q, i, hi, hq1, hq2, rfl, rfl, hsc, hb⟩ := hrel
    have HM' := HM.out
    have HS := Lib.hid hsc
    have HB := Lib.hid hb
    by_cases hlt : i < m
    · have hpi : p + i < t.length := by omega
      have hnc := (HN.out.keep hb) (p + i) hpi
      obtain ⟨n, hn⟩ : ∃ n, n = t.getD (p + i) default := ⟨_, rfl⟩
      rw [← hn, show o + (p + i) * 5 = o + p * 5 + i * 5 by omega] at hnc
      have HD : Hid (t.drop (p + i) = n :: t.drop (p + i + 1)) := Lib.hid (by rw [hn]; exact drop_cons hpi)
      obtain ⟨e0, e1, e2, e3, e4⟩ := hnc
      have HK := Lib.hid (fun w' (hb : Below wr.heap.size wr w') => kindof_any n.op w' ((HC.out.keep HB.out).keep hb))
      have HCt := Lib.hid (fun w => count_any (ixO n.op) (ixO_lt n.op) w)
      have hix := ixO_lt n.op
      have HE : Hid (mkO n.op = mkN (ixO n.op) ∧ cnO n.op = cnN (ixO n.op)) := Lib.hid ⟨rfl, rfl⟩
      have hcn := cn_le n.op
      rw [HE.out.2] at hcn
      generalize ixO n.op = k at *
      clear hsc hb hn HM'
      have i0 : (0 : Int) ≤ (i : Int) := by omega
      have i1 : (i : Int) < (m : Int) := by omega
      obtain ⟨m0, m1, m2, m3, m4, m5, m6, m7, hR, hm0⟩ := rowC_is0 k
      have HM0 := Lib.hid hm0
      rw [hR] at HK HCt
      clear hR hm0
      have HNew := Lib.hid (newB wr)
      by_cases hz : m0 = 0
      · subst hz
        have HZ : Hid (szE t p = (0, 13)) := Lib.hid (by
          unfold szE
          rw [HS.out, HD.out]
          obtain ⟨q', rfl⟩ : ∃ q', q = q' + 1 := ⟨q - 1, by omega⟩
          rw [scan_bad (HE.out.1.trans HM0.out.symm)]; rfl)
        go_wp2_with fail
        refine (HK.out _ (HNew.out _)).mono ?_
        rintro e w1 ⟨rfl, hb1⟩
        have HB1 := Lib.hid hb1
        clear hb1
        go_wp2_with fail
        go_ret2
        exact ⟨ret_twoT (by rw [HR.out.1, HZ.out]; rfl) (by rw [HR.out.2, HZ.out]; rfl), onB HB.out (onB (HNew.out _) (onB HB1.out (newB _ _)))⟩
      · have hzb : ((m0 : Int) == 0) = false := by simp; omega
        have HZ := Lib.hid hz
        have hq1' : (1 : Int) ≤ (q : Int) := by omega
        have hq2' : (q : Int) ≤ 1000000 := by omega
        have hc1 : ((cnN k : Nat) : Int) ≤ 4 := by omega
        have hc0 : 0 ≤ ((cnN k : Nat) : Int) := by omega
        have HSt : Hid (scan q (t.drop (p + i)) = (scan (q - 1 + cnN k) (t.drop (p + i + 1))).map (· + 1)) := Lib.hid (by
          rw [HD.out]
          obtain ⟨q', rfl⟩ : ∃ q', q = q' + 1 := ⟨q - 1, by omega⟩
          rw [scan_cons (fun e => HZ.out (HM0.out.trans (HE.out.1.symm.trans e))), HE.out.2]; rfl)
        clear hz
        by_cases h0 : q - 1 + cnN k = 0
        · have HAns : Hid (szE t p = (i + 1, 0)) := Lib.hid (by
            unfold szE
            rw [HS.out, HSt.out, h0, scan_zero]; rfl)
          obtain rfl : q = 1 := by omega
          have hcz : cnN k = 0 := by omega
          rw [hcz] at HCt
          clear h0
          go_wp2_with fail
          refine (HK.out _ (HNew.out _)).mono ?_
          rintro e w1 ⟨rfl, hb1⟩
          have HB1 := Lib.hid hb1
          clear hb1
          go_wp2_with fail
          refine (HCt.out _).mono ?_
          rintro e w2 ⟨rfl, hb2⟩
          have HB2 := Lib.hid hb2
          clear hb2
          go_wp2_with fail
          go_ret2
          exact ⟨ret_twoT (by rw [HR.out.1, HAns.out]; rfl) (by rw [HR.out.2, HAns.out]; rfl), onB HB.out (onB (HNew.out _) (onB HB1.out (onB (newB _ _) HB2.out)))⟩
        · generalize cnN k = c at *
          have hne : ((q : Int) + ((c : Int) - 1) == 0) = false := by simp; omega
          have HQ : Hid (0 < q - 1 + c) := Lib.hid (by omega)
          clear h0
          go_wp2_with fail
          refine (HK.out _ (HNew.out _)).mono ?_
          rintro e w1 ⟨rfl, hb1⟩
          have HB1 := Lib.hid hb1
          clear hb1
          go_wp2_with fail
          refine (HCt.out _).mono ?_
          rintro e w2 ⟨rfl, hb2⟩
          have HB2 := Lib.hid hb2
          clear hb2
          go_wp2_with fail
          go_roundw
          case rel =>
            have := HQ.out
            exact ⟨q - 1 + c, i + 1, by omega, by omega, by omega, by go_num, by go_num, by rw [HS.out, HSt.out, show p + (i + 1) = p + i + 1 by omega]; cases scan (q - 1 + c) (t.drop (p + i + 1)) <;> simp <;> omega, onB HB.out (onB (HNew.out _) (onB HB1.out (onB (newB _ _) HB2.out)))⟩
          case measure => simp [RowKit.intOf]; omega
    · obtain rfl : i = m := by omega
      have HZ : Hid (szE t p = (0, 13)) := Lib.hid (by
        unfold szE
        rw [HS.out, show p + i = t.length by omega, List.drop_length]
        obtain ⟨q', rfl⟩ : ∃ q', q = q' + 1 := ⟨q - 1, by omega⟩
        rfl)
      clear hsc hb HM'
      go_wp2_with fail
      go_ret2
      exact ⟨ret_twoT (by rw [HR.out.1, HZ.out]; rfl) (by rw [HR.out.2, HZ.out]; rfl), HB.out⟩

end Go.Proofs.YtadjhofomabbmaaDoor

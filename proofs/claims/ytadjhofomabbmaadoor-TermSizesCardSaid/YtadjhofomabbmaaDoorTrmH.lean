/-
  Package term: mayA, mayB, mayValue, filled: what they answer.
-/
import Derived.Test.YtadjhofomabbmaaDoorTrmG
import Derived.Test.YtadjhofomabbmaaDoorRatB
namespace Go.Proofs.YtadjhofomabbmaaDoor
open Go.RowKit Go.Lib
set_option linter.unusedVariables false

def I64T (n : Int) : Prop := -9223372036854775808 ≤ n ∧ n ≤ 9223372036854775807
def fldA (k : Nat) (n : Nd) : Bool := decide (0 ≤ n.a ∧ n.a ≤ (maN k : Int))
def fldB (k : Nat) (n : Nd) : Bool := decide (0 ≤ n.b ∧ n.b ≤ (mbN k : Int))
def fldV (k : Nat) (n : Nd) : Bool := if k = 1 then decide (chkE n.num n.den = 0) else decide (n.num = 0 ∧ n.den = 0)
def ndC (n : Nd) : Array Value := #[.int .i64 n.op, .int .i64 n.a, .int .i64 n.b, .int .i64 n.num, .int .i64 n.den]

theorem ret_boolT {a b : Bool} (h : a = b) : Ending.returned (.bool a) = .returned (.bool b) := by rw [h]
set_option maxHeartbeats 1000000 in
set_option maxRecDepth 100000 in
theorem mayA_any (k : Nat) (n : Nd) (w : World) : Calls Tryd.prog 56 #[.agg (rowC k), .agg (ndC n)] w fun e w' => e = .returned (.bool (fldA k n)) ∧ Below w.heap.size w w' := by
  obtain ⟨r, hr⟩ : ∃ r, r = fldA k n := ⟨_, rfl⟩
  have HR := Lib.hid hr
  rw [← hr]
  have hB : ∀ o o', Below w.heap.size w ((w.alloc o).alloc o') := fun o o' => onB (newB _ _) (newB _ _)
  have HB := Lib.hid hB
  unfold rowC ndC
  have hR : Hid (∃ m, m = (maN k : Int)) := Lib.hid ⟨_, rfl⟩
  generalize mkN k = m0 at *
  generalize kdC k 0 = m1 at *
  generalize kdC k 1 = m2 at *
  generalize kdC k 2 = m3 at *
  generalize kdC k 3 = m4 at *
  generalize mbN k = m6 at *
  generalize vlB k = m7 at *
  have hfa : fldA k n = decide (0 ≤ n.a ∧ n.a ≤ (maN k : Int)) := rfl
  have HF := Lib.hid hfa
  clear hr hfa hB
  generalize maN k = m5 at *
  obtain ⟨op, a, b, num, den⟩ := n
  dsimp only at *
  by_cases h0 : 0 ≤ a
  · by_cases h1 : a ≤ (m5 : Int)
    · go_enter Tryd.func56, Tryd.ntmps56
      go_wp2_with fail
      go_ret
      exact ⟨ret_boolT (by rw [HR.out, HF.out]; simp; omega), HB.out _ _⟩
    · go_enter Tryd.func56, Tryd.ntmps56
      go_wp2_with fail
      go_ret
      exact ⟨ret_boolT (by rw [HR.out, HF.out]; simp; omega), HB.out _ _⟩
  · have h0' : a < 0 := by omega
    go_enter Tryd.func56, Tryd.ntmps56
    go_wp2_with fail
    go_ret
    exact ⟨ret_boolT (by rw [HR.out, HF.out]; simp; omega), HB.out _ _⟩

set_option maxHeartbeats 1000000 in
set_option maxRecDepth 100000 in
theorem mayB_any (k : Nat) (n : Nd) (w : World) : Calls Tryd.prog 57 #[.agg (rowC k), .agg (ndC n)] w fun e w' => e = .returned (.bool (fldB k n)) ∧ Below w.heap.size w w' := by
  obtain ⟨r, hr⟩ : ∃ r, r = fldB k n := ⟨_, rfl⟩
  have HR := Lib.hid hr
  rw [← hr]
  have hB : ∀ o o', Below w.heap.size w ((w.alloc o).alloc o') := fun o o' => onB (newB _ _) (newB _ _)
  have HB := Lib.hid hB
  unfold rowC ndC
  have hR : Hid (∃ m, m = (mbN k : Int)) := Lib.hid ⟨_, rfl⟩
  generalize mkN k = m0 at *
  generalize kdC k 0 = m1 at *
  generalize kdC k 1 = m2 at *
  generalize kdC k 2 = m3 at *
  generalize kdC k 3 = m4 at *
  generalize maN k = m5 at *
  generalize vlB k = m7 at *
  have hfa : fldB k n = decide (0 ≤ n.b ∧ n.b ≤ (mbN k : Int)) := rfl
  have HF := Lib.hid hfa
  clear hr hfa hB
  generalize mbN k = m6 at *
  obtain ⟨op, a, b, num, den⟩ := n
  dsimp only at *
  by_cases h0 : 0 ≤ b
  · by_cases h1 : b ≤ (m6 : Int)
    · go_enter Tryd.func57, Tryd.ntmps57
      go_wp2_with fail
      go_ret
      exact ⟨ret_boolT (by rw [HR.out, HF.out]; simp; omega), HB.out _ _⟩
    · go_enter Tryd.func57, Tryd.ntmps57
      go_wp2_with fail
      go_ret
      exact ⟨ret_boolT (by rw [HR.out, HF.out]; simp; omega), HB.out _ _⟩
  · have h0' : b < 0 := by omega
    go_enter Tryd.func57, Tryd.ntmps57
    go_wp2_with fail
    go_ret
    exact ⟨ret_boolT (by rw [HR.out, HF.out]; simp; omega), HB.out _ _⟩

set_option maxHeartbeats 1000000 in
set_option maxRecDepth 100000 in
theorem mayV_any (k : Nat) (n : Nd) (hn : I64T n.num) (hd : I64T n.den) (w : World) : Calls Tryd.prog 58 #[.agg (rowC k), .agg (ndC n)] w fun e w' => e = .returned (.bool (fldV k n)) ∧ Below w.heap.size w w' := by
  obtain ⟨r, hr⟩ : ∃ r, r = fldV k n := ⟨_, rfl⟩
  have HR := Lib.hid hr
  rw [← hr]
  have hB : ∀ o o', Below w.heap.size w ((w.alloc o).alloc o') := fun o o' => onB (newB _ _) (newB _ _)
  have HB := Lib.hid hB
  have HCk := Lib.hid (fun w => check_any n.num n.den w hn.1 hn.2 hd.1 hd.2)
  unfold rowC ndC
  by_cases hk : k = 1
  · have HF : Hid (fldV k n = decide (chkE n.num n.den = 0)) := Lib.hid (by unfold fldV; rw [if_pos hk])
    have hv : vlB k = true := by subst hk; rfl
    rw [hv]
    generalize mkN k = m0 at *
    generalize kdC k 0 = m1 at *
    generalize kdC k 1 = m2 at *
    generalize kdC k 2 = m3 at *
    generalize kdC k 3 = m4 at *
    generalize maN k = m5 at *
    generalize mbN k = m6 at *
    clear hr hB hk hv hn hd
    obtain ⟨op, a, b, num, den⟩ := n
    dsimp only at *
    generalize chkE num den = ce at *
    by_cases h0 : ce = 0
    · subst h0
      go_enter Tryd.func58, Tryd.ntmps58
      go_wp2_with fail
      refine (HCk.out _).mono ?_
      rintro e w1 ⟨rfl, hb⟩
      go_wp2_with fail
      go_ret
      exact ⟨ret_boolT (by rw [HR.out, HF.out]; rfl), onB (HB.out _ _) hb⟩
    · have hz : (ce == 0) = false := by simp; omega
      have H0 := Lib.hid h0
      clear h0
      go_enter Tryd.func58, Tryd.ntmps58
      go_wp2_with fail
      refine (HCk.out _).mono ?_
      rintro e w1 ⟨rfl, hb⟩
      go_wp2_with fail
      go_ret
      exact ⟨ret_boolT (by rw [HR.out, HF.out, decide_eq_false H0.out]), onB (HB.out _ _) hb⟩
  · have HF : Hid (fldV k n = decide (n.num = 0 ∧ n.den = 0)) := Lib.hid (by unfold fldV; rw [if_neg hk])
    have hv : vlB k = false := by unfold vlB; simp [hk]
    rw [hv]
    generalize mkN k = m0 at *
    generalize kdC k 0 = m1 at *
    generalize kdC k 1 = m2 at *
    generalize kdC k 2 = m3 at *
    generalize kdC k 3 = m4 at *
    generalize maN k = m5 at *
    generalize mbN k = m6 at *
    clear hr hB hk hv hn hd HCk
    obtain ⟨op, a, b, num, den⟩ := n
    dsimp only at *
    go_enter Tryd.func58, Tryd.ntmps58
    go_wp2_with fail
    all_goals go_ret
    all_goals exact ⟨ret_boolT (by rw [HR.out, HF.out]; simp [*]), HB.out _ _⟩

theorem index0T (a b c : Value) (w : World) : (Instr.index 92 (.agg #[a, b, c]) (.int .i64 0)).run Tryd.prog w = .ok a w := by kernel_rfl
theorem index1T (a b c : Value) (w : World) : (Instr.index 92 (.agg #[a, b, c]) (.int .i64 1)).run Tryd.prog w = .ok b w := by kernel_rfl
theorem index2T (a b c : Value) (w : World) : (Instr.index 92 (.agg #[a, b, c]) (.int .i64 2)).run Tryd.prog w = .ok c w := by kernel_rfl
/-- May a node's fields be? -/
def fldO (n : Nd) : Bool := fldA (ixO n.op) n && fldB (ixO n.op) n && fldV (ixO n.op) n
set_option maxHeartbeats 4000000 in
set_option maxRecDepth 100000 in
theorem filled_main (t : List Nd) (hL : t.length ≤ 1000) (b o cap : Nat) (hcap : t.length ≤ cap) (hcm : cap ≤ 9223372036854775807) (hbd : ∀ p, p < t.length → I64T (t.getD p default).num ∧ I64T (t.getD p default).den) (w : World) (hN : NdA w b o t) (C : KndW w) :
    Calls Tryd.prog 43 #[.slice (some ⟨b, o, none⟩) t.length cap] w fun e w' => (∃ r, e = .returned (.bool r) ∧ (r = true ↔ ∀ p, p < t.length → fldO (t.getD p default) = true)) ∧ Below w.heap.size w w' := by
  have HN := Lib.hid hN
  have HC := Lib.hid C
  have HBd := Lib.hid hbd
  clear hN C hbd
  go_enter Tryd.func43, Tryd.ntmps43
  go_wp2_with fail
  go_step3
  go_wp2_with fail
  go_step3
  go_wp2_with fail
  go_loopw [3, 11] (fun vo vi wx => ∃ k : Nat, k ≤ t.length ∧ vi = .int .i64 k ∧ vo = .bool true ∧ (∀ p, p < k → fldO (t.getD p default) = true) ∧ Below w.heap.size w wx) (fun _ vi _ => t.length - (RowKit.intOf vi).toNat)
  case atStart => exact ⟨0, Nat.zero_le _, rfl, rfl, fun p hp => absurd hp (Nat.not_lt_zero p), Below.refl _ _⟩
  case round =>
    obtain ⟨k, hk, rfl, rfl, hok, hb⟩ := hrel
    have HB := Lib.hid hb
    have HOk := Lib.hid hok
    by_cases hlt : k < t.length
    · have i0 : (0 : Int) ≤ (k : Int) := by omega
      have i1 : (k : Int) < (t.length : Int) := by omega
      have hnc := (HN.out.keep hb) k hlt
      have hbb := HBd.out k hlt
      obtain ⟨nd, hnd⟩ : ∃ nd, nd = t.getD k default := ⟨_, rfl⟩
      have HNd := Lib.hid hnd
      rw [← hnd] at hnc hbb
      obtain ⟨e0, e1, e2, e3, e4⟩ := hnc
      have HK := Lib.hid (fun w' (hb : Below wr.heap.size wr w') => kindof_any nd.op w' ((HC.out.keep HB.out).keep hb))
      have HMA := Lib.hid (fun w => mayA_any (ixO nd.op) nd w)
      have HMB := Lib.hid (fun w => mayB_any (ixO nd.op) nd w)
      have HMV := Lib.hid (fun w => mayV_any (ixO nd.op) nd hbb.1 hbb.2 w)
      have HF : Hid (fldO nd = (fldA (ixO nd.op) nd && fldB (ixO nd.op) nd && fldV (ixO nd.op) nd)) := Lib.hid rfl
      have HNew := Lib.hid (newB wr)
      obtain ⟨m0, m1, m2, m3, m4, m5, m6, m7, hR⟩ := rowC_is (ixO nd.op)
      rw [hR] at HK HMA HMB HMV
      unfold ndC at HMA HMB HMV
      generalize fldA (ixO nd.op) nd = fa at *
      generalize fldB (ixO nd.op) nd = fb at *
      generalize fldV (ixO nd.op) nd = fv at *
      clear hb hok hnd hbb hR
      go_wp2_with fail
      refine (HK.out _ (HNew.out _)).mono ?_
      rintro e w1 ⟨rfl, hb1⟩
      have HB1 := Lib.hid hb1
      have n0 := keepT hb1 (show (wr.alloc (.cells #[.int .i64 nd.op, .int .i64 nd.a, .int .i64 nd.b, .int .i64 nd.num, .int .i64 nd.den] 55)).cell? ⟨wr.heap.size, 0, none⟩ = some (.int .i64 nd.op) by rw [World.cell?_alloc_at _ _ _ _ rfl]; rfl)
      have n1 := keepT hb1 (show (wr.alloc (.cells #[.int .i64 nd.op, .int .i64 nd.a, .int .i64 nd.b, .int .i64 nd.num, .int .i64 nd.den] 55)).cell? ⟨wr.heap.size, 1, none⟩ = some (.int .i64 nd.a) by rw [World.cell?_alloc_at _ _ _ _ rfl]; rfl)
      have n2 := keepT hb1 (show (wr.alloc (.cells #[.int .i64 nd.op, .int .i64 nd.a, .int .i64 nd.b, .int .i64 nd.num, .int .i64 nd.den] 55)).cell? ⟨wr.heap.size, 2, none⟩ = some (.int .i64 nd.b) by rw [World.cell?_alloc_at _ _ _ _ rfl]; rfl)
      have n3 := keepT hb1 (show (wr.alloc (.cells #[.int .i64 nd.op, .int .i64 nd.a, .int .i64 nd.b, .int .i64 nd.num, .int .i64 nd.den] 55)).cell? ⟨wr.heap.size, 3, none⟩ = some (.int .i64 nd.num) by rw [World.cell?_alloc_at _ _ _ _ rfl]; rfl)
      have n4 := keepT hb1 (show (wr.alloc (.cells #[.int .i64 nd.op, .int .i64 nd.a, .int .i64 nd.b, .int .i64 nd.num, .int .i64 nd.den] 55)).cell? ⟨wr.heap.size, 4, none⟩ = some (.int .i64 nd.den) by rw [World.cell?_alloc_at _ _ _ _ rfl]; rfl)
      have q0 := newT n0
      have q1 := newT n1
      have q2 := newT n2
      have q3 := newT n3
      have q4 := newT n4
      clear hb1 n0 n1 n2 n3 n4
      go_wp2_with fail
      obtain ⟨wq, hwq⟩ : ∃ wq, wq = w1.alloc (.cells #[.int .i64 m0, .int .i64 m1, .int .i64 m2, .int .i64 m3, .int .i64 m4, .int .i64 m5, .int .i64 m6, .bool m7] 70) := ⟨_, rfl⟩
      have HQ : Hid (Below wr.heap.size wr wq) := Lib.hid (by rw [hwq]; exact onB (HNew.out _) (onB HB1.out (newB _ _)))
      have HCells : Hid (∀ wx, Below wq.heap.size wq wx → wx.cell? ⟨wr.heap.size, 0, none⟩ = some (.int .i64 nd.op) ∧ wx.cell? ⟨wr.heap.size, 1, none⟩ = some (.int .i64 nd.a) ∧ wx.cell? ⟨wr.heap.size, 2, none⟩ = some (.int .i64 nd.b) ∧ wx.cell? ⟨wr.heap.size, 3, none⟩ = some (.int .i64 nd.num) ∧ wx.cell? ⟨wr.heap.size, 4, none⟩ = some (.int .i64 nd.den)) := Lib.hid (fun wx hb => by
        rw [hwq] at hb
        exact ⟨keepT hb (q0 _), keepT hb (q1 _), keepT hb (q2 _), keepT hb (q3 _), keepT hb (q4 _)⟩)
      rw [← hwq]
      clear hwq q0 q1 q2 q3 q4
      go_loopw [3, 25] (fun vo vj wx => ∃ j : Nat, j ≤ 3 ∧ vj = .int .i64 j ∧ vo = .bool true ∧ (0 < j → fa = true) ∧ (1 < j → fb = true) ∧ (2 < j → fv = true) ∧ Below wq.heap.size wq wx) (fun _ vj _ => 3 - (RowKit.intOf vj).toNat)
      case atStart => exact ⟨0, by omega, rfl, rfl, fun h => absurd h (by omega), fun h => absurd h (by omega), fun h => absurd h (by omega), Below.refl _ _⟩
      case round =>
        obtain ⟨j, hj, rfl, rfl, ha, hb, hv, hbq⟩ := hrel
        have HBq := Lib.hid hbq
        have HA := Lib.hid (And.intro ha (And.intro hb hv))
        obtain ⟨n0, n1, n2, n3, n4⟩ := HCells.out _ hbq
        clear ha hb hv hbq
        match j, hj with
        | 0, _ =>
          have hix := index0T
          go_wp2_with fail
          refine (HMA.out _).mono ?_
          rintro e w2 ⟨rfl, hb2⟩
          have HB2 := Lib.hid (onB HBq.out hb2)
          clear hb2
          cases fa with
          | true =>
            go_wp2_with fail
            go_roundw
            case rel => exact ⟨1, by omega, by go_num, rfl, (fun _ => by first | rfl | trivial), (fun h => absurd h (by omega)), (fun h => absurd h (by omega)), HB2.out⟩
            case measure => simp [RowKit.intOf]
          | false =>
            have HNo : Hid (¬ ∀ p, p < t.length → fldO (t.getD p default) = true) := Lib.hid (fun h => by
              have := h k hlt
              rw [← HNd.out, HF.out] at this
              simp at this)
            go_wp2_with fail
            try rw [Exit.noGoto_ret]
            go_ret
            exact ⟨⟨false, rfl, ⟨(fun h => by cases h), fun h => absurd h HNo.out⟩⟩, onB HB.out (onB HQ.out HB2.out)⟩
        | 1, _ =>
          have hix := index1T
          go_wp2_with fail
          refine (HMB.out _).mono ?_
          rintro e w2 ⟨rfl, hb2⟩
          have HB2 := Lib.hid (onB HBq.out hb2)
          clear hb2
          cases fb with
          | true =>
            go_wp2_with fail
            go_roundw
            case rel => exact ⟨2, by omega, by go_num, rfl, (fun _ => HA.out.1 (by omega)), (fun _ => by first | rfl | trivial), (fun h => absurd h (by omega)), HB2.out⟩
            case measure => simp [RowKit.intOf]
          | false =>
            have HNo : Hid (¬ ∀ p, p < t.length → fldO (t.getD p default) = true) := Lib.hid (fun h => by
              have := h k hlt
              rw [← HNd.out, HF.out] at this
              simp at this)
            go_wp2_with fail
            try rw [Exit.noGoto_ret]
            go_ret
            exact ⟨⟨false, rfl, ⟨(fun h => by cases h), fun h => absurd h HNo.out⟩⟩, onB HB.out (onB HQ.out HB2.out)⟩
        | 2, _ =>
          have hix := index2T
          go_wp2_with fail
          refine (HMV.out _).mono ?_
          rintro e w2 ⟨rfl, hb2⟩
          have HB2 := Lib.hid (onB HBq.out hb2)
          clear hb2
          cases fv with
          | true =>
            go_wp2_with fail
            go_roundw
            case rel => exact ⟨3, by omega, by go_num, rfl, (fun _ => HA.out.1 (by omega)), (fun _ => HA.out.2.1 (by omega)), (fun _ => by first | rfl | trivial), HB2.out⟩
            case measure => simp [RowKit.intOf]
          | false =>
            have HNo : Hid (¬ ∀ p, p < t.length → fldO (t.getD p default) = true) := Lib.hid (fun h => by
              have := h k hlt
              rw [← HNd.out, HF.out] at this
              simp at this)
            go_wp2_with fail
            try rw [Exit.noGoto_ret]
            go_ret
            exact ⟨⟨false, rfl, ⟨(fun h => by cases h), fun h => absurd h HNo.out⟩⟩, onB HB.out (onB HQ.out HB2.out)⟩
        | 3, _ =>
          have HYes : Hid (fldO nd = true) := Lib.hid (by rw [HF.out, HA.out.1 (by omega), HA.out.2.1 (by omega), HA.out.2.2 (by omega)]; rfl)
          go_wp2_with fail
          go_roundw
          case rel =>
            refine ⟨k + 1, by omega, by go_num, rfl, fun p hp => ?_, onB HB.out (onB HQ.out HBq.out)⟩
            by_cases e : p = k
            · subst e; rw [← HNd.out]; exact HYes.out
            · exact HOk.out p (by omega)
          case measure => simp [RowKit.intOf]; omega
        | j + 4, h => exact absurd h (by omega)
    · obtain rfl : k = t.length := by omega
      clear hb hok
      go_wp2_with fail
      try rw [Exit.noGoto_ret]
      go_ret
      exact ⟨⟨true, rfl, ⟨fun _ => HOk.out, fun _ => rfl⟩⟩, HB.out⟩

end Go.Proofs.YtadjhofomabbmaaDoor

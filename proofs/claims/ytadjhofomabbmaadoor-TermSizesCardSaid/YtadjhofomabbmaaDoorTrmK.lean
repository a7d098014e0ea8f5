/-
  chattellaw05: sort; chattelref05: Kids, Sort; TermOps's walk.
-/
import Derived.Test.YtadjhofomabbmaaDoorTrmJ
import Derived.Deep.QuietTactic
import Derived.IntWalk
namespace Go.Proofs.YtadjhofomabbmaaDoor
open Go.RowKit Go.Lib
set_option linter.unusedVariables false

/-- A sort's sign. -/
def sB (m : Nat) : UInt8 := if m = 1 then 111 else 99
def kidsS (op : Int) : ByteArray := ⟨((kdO op).map sB).toArray⟩
def sortS (op : Int) : ByteArray := if mkO op = 0 then ⟨#[]⟩ else ⟨#[sB (mkO op)]⟩
theorem kidsS_size (op : Int) : (kidsS op).size = cnO op := by
  show ((kdO op).map sB).toArray.size = _
  simp [cnO]

theorem lsort_none (w : World) : Calls Tryd.prog 16 #[.string ⟨#[]⟩] w fun e w' => e = .returned (.int .i64 0) ∧ w = w' := by
  go_enter Tryd.func16, Tryd.ntmps16
  go_wp2_with fail
  go_ret
  exact ⟨rfl, rfl⟩
theorem lsort_o (w : World) : Calls Tryd.prog 16 #[.string ⟨#[111]⟩] w fun e w' => e = .returned (.int .i64 1) ∧ w = w' := by
  go_enter Tryd.func16, Tryd.ntmps16
  go_wp2_with fail
  go_ret
  exact ⟨rfl, rfl⟩
theorem lsort_c (w : World) : Calls Tryd.prog 16 #[.string ⟨#[99]⟩] w fun e w' => e = .returned (.int .i64 2) ∧ w = w' := by
  go_enter Tryd.func16, Tryd.ntmps16
  go_wp2_with fail
  go_ret
  exact ⟨rfl, rfl⟩
theorem lsort_one (m : Nat) (h0 : m ≠ 0) (h2 : m ≤ 2) (w : World) : Calls Tryd.prog 16 #[.string ⟨#[sB m]⟩] w fun e w' => e = .returned (.int .i64 m) ∧ w = w' := by
  have : m = 1 ∨ m = 2 := by omega
  rcases this with rfl | rfl
  · exact lsort_o w
  · exact lsort_c w
theorem lsort_any (op : Int) (w : World) : Calls Tryd.prog 16 #[.string (sortS op)] w fun e w' => e = .returned (.int .i64 (mkO op)) ∧ w = w' := by
  unfold sortS
  by_cases h : mkO op = 0
  · rw [if_pos h, h]; exact lsort_none w
  · rw [if_neg h]; exact lsort_one _ h (mk_le op) w

theorem rsort_out (op : Int) (h : op < 1 ∨ 17 < op) : sortS op = ⟨#[]⟩ ∧ kidsS op = ⟨#[]⟩ := by
  have : ixO op = 0 := by
    unfold ixO
    by_cases c : 0 ≤ op ∧ op < 18
    · rw [if_pos c]; omega
    · rw [if_neg c]
  unfold sortS kidsS mkO kdO
  rw [this]; exact ⟨rfl, rfl⟩
theorem rsort_all : ∀ k < 18, 1 ≤ k → mkT.getD k 0 = if k < 9 then 1 else 2 := by decide
theorem rsort_in (op : Int) (h1 : 1 ≤ op) (h2 : op ≤ 17) : sortS op = if op < 9 then ⟨#[111]⟩ else ⟨#[99]⟩ := by
  have e : ixO op = op.toNat := by unfold ixO; rw [if_pos (by omega)]
  have := rsort_all op.toNat (by omega) (by omega)
  have e2 : mkO op = if op.toNat < 9 then 1 else 2 := by unfold mkO; rw [e]; exact this
  unfold sortS
  by_cases c : op < 9
  · have e3 : mkO op = 1 := by rw [e2, if_pos (by omega)]
    rw [if_pos c, e3]; rfl
  · have e3 : mkO op = 2 := by rw [e2, if_neg (by omega)]
    rw [if_neg c, e3]; rfl
set_option maxHeartbeats 1000000 in
theorem rsort_any (op : Int) (w : World) : Calls Tryd.prog 17 #[.int .i64 op] w fun e w' => e = .returned (.string (sortS op)) ∧ w = w' := by
  by_cases h1 : op < 1
  · rw [(rsort_out op (.inl h1)).1]
    go_enter Tryd.func17, Tryd.ntmps17
    go_wp2_with fail
    go_ret
    exact ⟨rfl, rfl⟩
  · have h1' : 1 ≤ op := by omega
    by_cases h2 : 17 < op
    · rw [(rsort_out op (.inr h2)).1]
      go_enter Tryd.func17, Tryd.ntmps17
      go_wp2_with fail
      go_ret
      exact ⟨rfl, rfl⟩
    · have h2' : op ≤ 17 := by omega
      rw [rsort_in op h1' h2']
      by_cases h3 : op < 9
      · rw [if_pos h3]
        go_enter Tryd.func17, Tryd.ntmps17
        go_wp2_with fail
        go_ret
        exact ⟨rfl, rfl⟩
      · rw [if_neg h3]
        have h3' : 9 ≤ op := by omega
        go_enter Tryd.func17, Tryd.ntmps17
        go_wp2_with fail
        go_ret
        exact ⟨rfl, rfl⟩

def kidsA : Array Value := #[.string ⟨#[]⟩, .string ⟨#[]⟩, .string ⟨#[111]⟩, .string ⟨#[111, 111]⟩, .string ⟨#[111, 111]⟩, .string ⟨#[111, 111]⟩, .string ⟨#[111, 111]⟩, .string ⟨#[111, 111]⟩, .string ⟨#[]⟩, .string ⟨#[]⟩, .string ⟨#[99]⟩, .string ⟨#[99, 99]⟩, .string ⟨#[111, 99]⟩, .string ⟨#[99]⟩, .string ⟨#[111, 111, 99, 99]⟩, .string ⟨#[99, 99]⟩, .string ⟨#[99]⟩]
theorem kidsA_at : ∀ j, j < 17 → kidsA[j]? = some (.string ⟨((kdT.getD (j + 1) []).map sB).toArray⟩) := by
  intro j hj
  rcases j with _ | j
  · rfl
  rcases j with _ | j
  · rfl
  rcases j with _ | j
  · rfl
  rcases j with _ | j
  · rfl
  rcases j with _ | j
  · rfl
  rcases j with _ | j
  · rfl
  rcases j with _ | j
  · rfl
  rcases j with _ | j
  · rfl
  rcases j with _ | j
  · rfl
  rcases j with _ | j
  · rfl
  rcases j with _ | j
  · rfl
  rcases j with _ | j
  · rfl
  rcases j with _ | j
  · rfl
  rcases j with _ | j
  · rfl
  rcases j with _ | j
  · rfl
  rcases j with _ | j
  · rfl
  rcases j with _ | j
  · rfl
  omega
set_option maxHeartbeats 1000000 in
set_option maxRecDepth 100000 in
theorem rkids_any (op : Int) (w : World) : Calls Tryd.prog 14 #[.int .i64 op] w fun e w' => e = .returned (.string (kidsS op)) ∧ Below w.heap.size w w' := by
  by_cases h1 : op < 1
  · rw [(rsort_out op (.inl h1)).2]
    go_enter Tryd.func14, Tryd.ntmps14
    go_wp2_with fail
    go_ret
    exact ⟨rfl, Below.refl _ _⟩
  · have h1' : 1 ≤ op := by omega
    by_cases h2 : 17 < op
    · rw [(rsort_out op (.inr h2)).2]
      go_enter Tryd.func14, Tryd.ntmps14
      go_wp2_with fail
      go_ret
      exact ⟨rfl, Below.refl _ _⟩
    · have h2' : op ≤ 17 := by omega
      obtain ⟨j, hj⟩ : ∃ j : Nat, op - 1 = (j : Int) := ⟨(op - 1).toNat, by omega⟩
      have hj17 : j < 17 := by omega
      have e : kidsS op = ⟨((kdT.getD (j + 1) []).map sB).toArray⟩ := by
        have e : ixO op = j + 1 := by unfold ixO; rw [if_pos (by omega)]; omega
        unfold kidsS kdO
        rw [e]
      have hc : (w.alloc (.cells kidsA 9)).cell? ⟨w.heap.size, j, none⟩ = some (.string (kidsS op)) := by
        rw [World.cell?_alloc_at _ _ _ _ rfl, e]; exact kidsA_at j hj17
      have j0 : (0 : Int) ≤ (j : Int) := by omega
      have j1 : (j : Int) < 17 := by omega
      have HB := Lib.hid (newB w (.cells kidsA 9))
      unfold kidsA at hc HB
      generalize kidsS op = ks at *
      clear e
      go_enter Tryd.func14, Tryd.ntmps14
      go_wp2_with fail
      go_ret
      exact ⟨rfl, HB.out⟩

theorem kids_cut_all : ∀ k < 18, ∀ i < 4, i < (kdT.getD k []).length → (⟨((kdT.getD k []).map sB).toArray⟩ : ByteArray).extract i (i + 1) = ⟨#[sB (kdC k i)]⟩ := by decide
theorem kids_cut (op : Int) (i : Nat) (h : i < cnO op) : (kidsS op).extract i (i + 1) = ⟨#[sB (kdC (ixO op) i)]⟩ :=
  kids_cut_all (ixO op) (ixO_lt op) i (by have := cn_le op; omega) h
theorem kd_in (op : Int) (i : Nat) (h : i < cnO op) : kdC (ixO op) i ≠ 0 ∧ kdC (ixO op) i ≤ 2 :=
  (kd_all (ixO op) (ixO_lt op) i (by have := cn_le op; omega)).1 h

set_option maxHeartbeats 2000000 in
set_option maxRecDepth 100000 in
theorem ops_walk (op : Int) (w : World) (C : KndW w) : Calls Tryd.prog 4 #[.int .i64 op] w fun e w' => e = .returned (.bool true) ∧ Below w.heap.size w w' := by
  have HK := Lib.hid (kids_any op w C)
  have HRK := Lib.hid (fun w => rkids_any op w)
  have HSo := Lib.hid (fun w C => tsort_any op w C)
  have HRS := Lib.hid (fun w => rsort_any op w)
  have HLS := Lib.hid (fun w => lsort_any op w)
  have HC := Lib.hid C
  have hsz := kidsS_size op
  have hc4 := cn_le op
  have HCut : Hid (∀ i, i < cnO op → ∃ m : Nat, (kidsS op).extract i (i + 1) = ⟨#[sB m]⟩ ∧ m ≠ 0 ∧ m ≤ 2 ∧ m = kdC (ixO op) i) := Lib.hid (fun i hi => ⟨_, kids_cut op i hi, (kd_in op i hi).1, (kd_in op i hi).2, rfl⟩)
  generalize kidsS op = ks at *
  generalize sortS op = ss at *
  generalize mkO op = mo at *
  obtain ⟨c, hc⟩ : ∃ c, c = cnO op := ⟨_, rfl⟩
  rw [← hc] at HK hsz hc4 HCut
  clear C hc
  go_enter Tryd.func4, Tryd.ntmps4
  go_wp2_with fail
  refine HK.out.mono ?_
  rintro e w1 ⟨b, cap, rfl, hb0, hb1, hcell, hbel⟩
  have HB1 := Lib.hid hbel
  have HCell := Lib.hid hcell
  clear hbel hcell
  go_wp2_with fail
  refine (HRK.out _).mono ?_
  rintro e w2 ⟨rfl, hb2⟩
  have HB2 := Lib.hid (onB HB1.out hb2)
  have HCell2 : Hid (∀ j, j < c → w2.cell? ⟨b, 1 + j, none⟩ = some (.int .i64 (kdC (ixO op) j))) := Lib.hid (fun j hj => keepT hb2 (HCell.out j hj))
  clear hb2
  go_wp2_with fail
  refine (HSo.out _ (HC.out.keep HB2.out)).mono ?_
  rintro e w3 ⟨rfl, hb3⟩
  have HB3 := Lib.hid (onB HB2.out hb3)
  have HCell3 : Hid (∀ j, j < c → w3.cell? ⟨b, 1 + j, none⟩ = some (.int .i64 (kdC (ixO op) j))) := Lib.hid (fun j hj => keepT hb3 (HCell2.out j hj))
  clear hb3
  go_wp2_with fail
  refine (HRS.out _).mono ?_
  rintro e w4 ⟨rfl, rfl⟩
  go_wp2_with fail
  refine (HLS.out _).mono ?_
  rintro e w4 ⟨rfl, rfl⟩
  go_wp2_with fail
  have HAw := Lib.hid (fun w C => awake5_any w C)
  go_loopw [5] (fun vi wx => ∃ i : Nat, i ≤ c ∧ vi = .int .i64 i ∧ Below w3.heap.size w3 wx) (fun vi _ => c - (RowKit.intOf vi).toNat)
  case atStart => exact ⟨0, Nat.zero_le _, rfl, Below.refl _ _⟩
  case round =>
    obtain ⟨i, hi, rfl, hb⟩ := hrel
    have HB := Lib.hid hb
    by_cases hlt : i < c
    · have i0 : (0 : Int) ≤ (i : Int) := by omega
      have i1 : (i : Int) < (c : Int) := by omega
      have i2 : (i : Int) + 1 ≤ (c : Int) := by omega
      have i3 : (i : Int) ≤ (i : Int) + 1 := by omega
      have i4 : (i : Int) < 4 := by omega
      have hcell := keepT hb (HCell3.out i hlt)
      obtain ⟨m, hcut, hm0, hm2, hmk⟩ := HCut.out i hlt
      rw [← hmk] at hcell
      have HS1 : Hid (∀ w, Calls Tryd.prog 16 #[.string ⟨#[sB m]⟩] w fun e w' => e = .returned (.int .i64 (m : Int)) ∧ w' = w) := Lib.hid (fun w => (lsort_one m hm0 hm2 w).mono fun e w' ⟨h1, h2⟩ => ⟨h1, h2.symm⟩)
      have hwp : IntKind.i64.wrap ((i : Int) + 1) = (i : Int) + 1 := IntWalk.i64_in _ (by omega)
      have hn : ((i : Int) + 1).toNat = i + 1 := by omega
      have i5 : (0 : Int) ≤ (i : Int) + 1 := by omega
      clear hb hm0 hm2 hmk
      go_wp2_with fail
      go_quiet (first | (go_at_call 16; refine Calls.quiet_of_same (HS1.out _)))
      go_wp2_with fail
      go_roundw
      case rel => exact ⟨i + 1, by omega, by go_num, onB HB.out (below_drewT _ _)⟩
      case measure => simp [RowKit.intOf]; omega
    · obtain rfl : i = c := by omega
      clear hb
      go_wp2_with fail
      refine (HAw.out _ ((HC.out.keep HB3.out).keep HB.out)).mono ?_
      rintro e w5 ⟨rfl, hb5⟩
      go_wp2_with fail
      go_ret
      exact ⟨rfl, onB HB3.out (onB HB.out hb5)⟩

end Go.Proofs.YtadjhofomabbmaaDoor

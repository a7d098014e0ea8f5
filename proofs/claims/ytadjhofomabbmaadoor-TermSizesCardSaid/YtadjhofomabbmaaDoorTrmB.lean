/-
  Package term: kindOf, count, Sort, Kids: what they answer.
-/
import Derived.Test.YtadjhofomabbmaaDoorTrmA
import Derived.Test.YtadjhofomabbmaaDoorProg
import Derived.WalkKit
import Derived.PlainAid
import Derived.Below
import Derived.Outline
import Derived.WalkSmall
import Derived.BigQuiet
import Derived.Deep.QuietTactic
import Derived.RegionTactic
namespace Go.Proofs.YtadjhofomabbmaaDoor
open Go.RowKit Go.Lib
set_option linter.unusedVariables false

/-- The table of kinds: a row of eight cells for each op. -/
def kdC (k j : Nat) : Nat := (kdT.getD k []).getD j 0
def maN (k : Nat) : Nat := maT.getD k 0
def mbN (k : Nat) : Nat := mbT.getD k 0
def mkN (k : Nat) : Nat := mkT.getD k 0
def vlB (k : Nat) : Bool := k == 1
structure KndW (w : World) : Prop where
  c0 : ∀ k, k < 18 → w.cell? ⟨1, k * 8, none⟩ = some (.int .i64 (mkN k))
  c1 : ∀ k, k < 18 → w.cell? ⟨1, k * 8 + 1, none⟩ = some (.int .i64 (kdC k 0))
  c2 : ∀ k, k < 18 → w.cell? ⟨1, k * 8 + 2, none⟩ = some (.int .i64 (kdC k 1))
  c3 : ∀ k, k < 18 → w.cell? ⟨1, k * 8 + 3, none⟩ = some (.int .i64 (kdC k 2))
  c4 : ∀ k, k < 18 → w.cell? ⟨1, k * 8 + 4, none⟩ = some (.int .i64 (kdC k 3))
  c5 : ∀ k, k < 18 → w.cell? ⟨1, k * 8 + 5, none⟩ = some (.int .i64 (maN k))
  c6 : ∀ k, k < 18 → w.cell? ⟨1, k * 8 + 6, none⟩ = some (.int .i64 (mbN k))
  c7 : ∀ k, k < 18 → w.cell? ⟨1, k * 8 + 7, none⟩ = some (.bool (vlB k))
theorem ltT {w : World} {b i : Nat} {v : Value} (h : w.cell? ⟨b, i, none⟩ = some v) : b < w.heap.size := by
  rcases Nat.lt_or_ge b w.heap.size with g | g
  · exact g
  · simp [World.cell?, Array.getElem?_eq_none g] at h
theorem keepT {w w' : World} {b i : Nat} {v : Value} (hb : Below w.heap.size w w') (h : w.cell? ⟨b, i, none⟩ = some v) : w'.cell? ⟨b, i, none⟩ = some v := (hb.cell (p := ⟨b, i, none⟩) (ltT h)).trans h
theorem KndW.keep {w w' : World} (h : KndW w) (hb : Below w.heap.size w w') : KndW w' :=
  ⟨fun k hk => keepT hb (h.c0 k hk), fun k hk => keepT hb (h.c1 k hk), fun k hk => keepT hb (h.c2 k hk), fun k hk => keepT hb (h.c3 k hk), fun k hk => keepT hb (h.c4 k hk), fun k hk => keepT hb (h.c5 k hk), fun k hk => keepT hb (h.c6 k hk), fun k hk => keepT hb (h.c7 k hk)⟩
theorem below_drewT (w : World) (n : Nat) : Below w.heap.size w (w.drewN n) := ⟨rfl, rfl, rfl, Nat.le_refl _, fun _ _ => rfl⟩

theorem newT {w : World} {b i : Nat} {v : Value} (h : w.cell? ⟨b, i, none⟩ = some v) (o : Obj) : (w.alloc o).cell? ⟨b, i, none⟩ = some v := by
  rw [World.cell?_alloc_past _ _ _ (ltT h)]; exact h
theorem newB (w : World) (o : Obj) : Below w.heap.size w (w.alloc o) := Below.alloc (Below.refl _ _) (Nat.le_refl _) _
theorem onB {w w1 w2 : World} (h : Below w.heap.size w w1) (h' : Below w1.heap.size w1 w2) : Below w.heap.size w w2 := h.trans (h'.mono h.size)
/-- An op's row as a value. -/
def rowC (k : Nat) : Array Value := #[.int .i64 (mkN k), .int .i64 (kdC k 0), .int .i64 (kdC k 1), .int .i64 (kdC k 2), .int .i64 (kdC k 3), .int .i64 (maN k), .int .i64 (mbN k), .bool (vlB k)]

set_option maxHeartbeats 1000000 in
set_option maxRecDepth 100000 in
theorem kindof_yes (k : Nat) (hk : k < 18) (w : World) (C : KndW w) : Calls Tryd.prog 40 #[.int .i64 k] w fun e w' => e = .returned (.agg (rowC k)) ∧ Below w.heap.size w w' := by
  have i0 : (0 : Int) ≤ (k : Int) := by omega
  have i1 : (k : Int) < 18 := by omega
  have hc0 := newT (C.c0 k hk)
  have hc1 := newT (C.c1 k hk)
  have hc2 := newT (C.c2 k hk)
  have hc3 := newT (C.c3 k hk)
  have hc4 := newT (C.c4 k hk)
  have hc5 := newT (C.c5 k hk)
  have hc6 := newT (C.c6 k hk)
  have hc7 := newT (C.c7 k hk)
  unfold rowC
  generalize mkN k = m0 at *
  generalize kdC k 0 = m1 at *
  generalize kdC k 1 = m2 at *
  generalize kdC k 2 = m3 at *
  generalize kdC k 3 = m4 at *
  generalize maN k = m5 at *
  generalize mbN k = m6 at *
  generalize vlB k = m7 at *
  clear C
  go_enter Tryd.func40, Tryd.ntmps40
  go_wp2_with fail
  exact bodyPost_ret (v := .agg #[.int .i64 m0, .int .i64 m1, .int .i64 m2, .int .i64 m3, .int .i64 m4, .int .i64 m5, .int .i64 m6, .bool m7]) (by simp [results, Tryd.results40, go_sem]) rfl ⟨rfl, newB w _⟩
theorem row_zero : rowC 0 = #[.int .i64 0, .int .i64 0, .int .i64 0, .int .i64 0, .int .i64 0, .int .i64 0, .int .i64 0, .bool false] := rfl
set_option maxHeartbeats 1000000 in
set_option maxRecDepth 100000 in
theorem kindof_no (op : Int) (h : op < 0 ∨ 18 ≤ op) (w : World) : Calls Tryd.prog 40 #[.int .i64 op] w fun e w' => e = .returned (.agg (rowC 0)) ∧ Below w.heap.size w w' := by
  rw [row_zero]
  rcases h with h | h
  · go_enter Tryd.func40, Tryd.ntmps40
    go_wp2_with fail
    exact bodyPost_ret (v := .agg #[.int .i64 0, .int .i64 0, .int .i64 0, .int .i64 0, .int .i64 0, .int .i64 0, .int .i64 0, .bool false]) (by simp [results, Tryd.results40, go_sem]) rfl ⟨rfl, newB w _⟩
  · have h0 : 0 ≤ op := by omega
    go_enter Tryd.func40, Tryd.ntmps40
    go_wp2_with fail
    exact bodyPost_ret (v := .agg #[.int .i64 0, .int .i64 0, .int .i64 0, .int .i64 0, .int .i64 0, .int .i64 0, .int .i64 0, .bool false]) (by simp [results, Tryd.results40, go_sem]) rfl ⟨rfl, newB w _⟩
theorem kindof_any (op : Int) (w : World) (C : KndW w) : Calls Tryd.prog 40 #[.int .i64 op] w fun e w' => e = .returned (.agg (rowC (ixO op))) ∧ Below w.heap.size w w' := by
  by_cases h : 0 ≤ op ∧ op < 18
  · have e : ixO op = op.toNat := by unfold ixO; rw [if_pos h]
    rw [e]
    have := kindof_yes op.toNat (by omega) w C
    rwa [show ((op.toNat : Nat) : Int) = op by omega] at this
  · have e : ixO op = 0 := by unfold ixO; rw [if_neg h]
    rw [e]
    exact kindof_no op (by omega) w

theorem kd_all : ∀ k < 18, ∀ j < 5, (j < (kdT.getD k []).length → kdC k j ≠ 0 ∧ kdC k j ≤ 2) ∧ ((kdT.getD k []).length ≤ j → kdC k j = 0) := by decide
def cnN (k : Nat) : Nat := (kdT.getD k []).length
set_option maxHeartbeats 1000000 in
set_option maxRecDepth 100000 in
theorem count_any (k : Nat) (hk : k < 18) (w : World) : Calls Tryd.prog 41 #[.agg (rowC k)] w fun e w' => e = .returned (.int .i64 (cnN k)) ∧ Below w.heap.size w w' := by
  have hn4 : cnN k ≤ 4 := cn_all k hk
  have hcell : ∀ j, j < 4 → (w.alloc (.cells (rowC k) 70)).cell? ⟨w.heap.size, 1 + j, none⟩ = some (.int .i64 (kdC k j)) := fun j hj => by
    rw [World.cell?_alloc_at _ _ _ _ rfl]
    match j, hj with
    | 0, _ => rfl
    | 1, _ => rfl
    | 2, _ => rfl
    | 3, _ => rfl
  have HK := Lib.hid (fun j hj => kd_all k hk j hj)
  have HC := Lib.hid hcell
  have HB := Lib.hid (newB w (.cells (rowC k) 70))
  have hsz : (rowC k).size = 8 := rfl
  generalize rowC k = R at *
  clear hcell
  go_enter Tryd.func41, Tryd.ntmps41
  go_wp2_with fail
  go_loopw [3] (fun vn wx => ∃ n : Nat, n ≤ cnN k ∧ vn = .int .i64 n ∧ wx = w.alloc (.cells R 70)) (fun vn _ => 4 - (RowKit.intOf vn).toNat)
  case atStart => exact ⟨0, Nat.zero_le _, rfl, rfl⟩
  case round =>
    obtain ⟨n, hn, rfl, rfl⟩ := hrel
    by_cases hlt : n < cnN k
    · have i0 : (0 : Int) ≤ (n : Int) := by omega
      have i1 : (n : Int) < 4 := by omega
      have hc := HC.out n (by omega)
      have hz : (((kdC k n : Nat) : Int) == 0) = false := by
        have := ((HK.out n (by omega)).1 hlt).1
        simp; omega
      generalize kdC k n = c at *
      go_wp2_with fail
      go_roundw
      case rel => exact ⟨n + 1, by omega, by go_num, trivial⟩
      case measure => simp [RowKit.intOf]; omega
    · obtain rfl : n = cnN k := by omega
      by_cases h4 : cnN k < 4
      · have i0 : (0 : Int) ≤ ((cnN k : Nat) : Int) := by omega
        have i1 : ((cnN k : Nat) : Int) < 4 := by omega
        have hc := HC.out (cnN k) (by omega)
        rw [(HK.out (cnN k) (by omega)).2 (Nat.le_refl _)] at hc
        go_wp2_with fail
        go_ret
        exact ⟨rfl, HB.out⟩
      · have e4 : cnN k = 4 := by omega
        rw [e4]
        go_wp2_with fail
        go_ret
        refine ⟨?_, HB.out⟩
        rw [e4]; rfl

theorem fieldT (a b c d e f g h : Value) (w : World) : (Instr.field 70 (.agg #[a, b, c, d, e, f, g, h]) 0).run Tryd.prog w = .ok a w := by kernel_rfl
set_option maxHeartbeats 1000000 in
set_option maxRecDepth 100000 in
theorem tsort_any (op : Int) (w : World) (C : KndW w) : Calls Tryd.prog 15 #[.int .i64 op] w fun e w' => e = .returned (.int .i64 (mkO op)) ∧ Below w.heap.size w w' := by
  have HA := Lib.hid (kindof_any op w C)
  have hm : (mkO op : Nat) = mkN (ixO op) := rfl
  rw [hm]
  unfold rowC at HA
  clear C hm
  generalize mkN (ixO op) = m0 at *
  have hf := fieldT
  go_enter Tryd.func15, Tryd.ntmps15
  go_wp2_with fail
  refine HA.out.mono ?_
  rintro e w1 ⟨rfl, hb⟩
  go_wp2_with fail
  go_ret
  exact ⟨rfl, hb⟩

/-- A slice that reads as a row of numbers. -/
def RdsI (w : World) (v : Value) (l : List Int) : Prop := (v = .slice none 0 0 ∧ l = []) ∨ ∃ b o cap, v = .slice (some ⟨b, o, none⟩) l.length cap ∧ l.length ≤ cap ∧ cap ≤ maxLen ∧ b < w.heap.size ∧ ∀ j, j < l.length → w.cell? ⟨b, o + j, none⟩ = some (.int .i64 (l.getD j 0))
def kdI (op : Int) : List Int := (kdO op).map Int.ofNat

theorem rowC_is0 (k : Nat) : ∃ (m0 m1 m2 m3 m4 m5 m6 : Nat) (m7 : Bool), rowC k = #[.int .i64 m0, .int .i64 m1, .int .i64 m2, .int .i64 m3, .int .i64 m4, .int .i64 m5, .int .i64 m6, .bool m7] ∧ m0 = mkN k := ⟨_, _, _, _, _, _, _, _, rfl, rfl⟩
theorem rowC_is (k : Nat) : ∃ (m0 m1 m2 m3 m4 m5 m6 : Nat) (m7 : Bool), rowC k = #[.int .i64 m0, .int .i64 m1, .int .i64 m2, .int .i64 m3, .int .i64 m4, .int .i64 m5, .int .i64 m6, .bool m7] := ⟨_, _, _, _, _, _, _, _, rfl⟩
set_option maxHeartbeats 1000000 in
set_option maxRecDepth 100000 in
theorem kids_any (op : Int) (w : World) (C : KndW w) : Calls Tryd.prog 13 #[.int .i64 op] w fun e w' => ∃ b cap, e = .returned (.slice (some ⟨b, 1, none⟩) (cnO op) cap) ∧ w.heap.size ≤ b ∧ b < w'.heap.size ∧ (∀ j, j < cnO op → w'.cell? ⟨b, 1 + j, none⟩ = some (.int .i64 (kdC (ixO op) j))) ∧ Below w.heap.size w w' := by
  have HA := Lib.hid (kindof_any op w C)
  have HB := Lib.hid (fun w => count_any (ixO op) (ixO_lt op) w)
  have hn : cnO op = cnN (ixO op) := rfl
  have hle := cn_le op
  have hcell : ∀ w : World, ∀ j, j < 4 → (w.alloc (.cells (rowC (ixO op)) 70)).cell? ⟨w.heap.size, 1 + j, none⟩ = some (.int .i64 (kdC (ixO op) j)) := fun w j hj => by
    rw [World.cell?_alloc_at _ _ _ _ rfl]
    match j, hj with
    | 0, _ => rfl
    | 1, _ => rfl
    | 2, _ => rfl
    | 3, _ => rfl
  have HC := Lib.hid hcell
  rw [hn]
  rw [hn] at hle
  generalize ixO op = k at *
  clear C hcell hn
  obtain ⟨m0, m1, m2, m3, m4, m5, m6, m7, hR⟩ := rowC_is k
  rw [hR] at HA HB HC
  clear hR
  go_enter Tryd.func13, Tryd.ntmps13
  go_wp2_with fail
  refine HA.out.mono ?_
  rintro e w1 ⟨rfl, hb⟩
  have HB1 := Lib.hid hb
  clear hb
  go_wp2_with fail
  refine (HB.out _).mono ?_
  rintro e w2 ⟨rfl, hb2⟩
  have HB2 := Lib.hid hb2
  clear hb2
  have g0 : (0 : Int) ≤ ((cnN k : Nat) : Int) := by omega
  have g1 : ((cnN k : Nat) : Int) ≤ 4 := by omega
  go_wp2_with fail
  go_ret
  have hz := HB2.out.size
  rw [World.size_alloc] at hz
  exact ⟨_, _, rfl, HB1.out.size, by omega, fun j hj => keepT HB2.out (HC.out w1 j (by omega)), onB HB1.out (onB (newB _ _) HB2.out)⟩

end Go.Proofs.YtadjhofomabbmaaDoor

/-
  Terms as rows of nodes: how many nodes, which places, which depth. No program.
-/
import Derived.Lib.Hide
import Derived.Test.YtgeneoamngfomaaGreatDoorProg
import Derived.WalkKit
import Derived.PlainAid
import Derived.Below
import Derived.Outline
import Derived.WalkSmall
import Derived.BigQuiet
import Derived.Deep.QuietTactic
import Derived.RegionTactic
import Derived.RangeFuncBox
import Derived.RangeFuncNested
import Derived.RangeFuncBound
import Derived.RangeFuncCalls
import Derived.RangeFuncLeaves
import Derived.Shelf.Abstract
import Derived.OwnWalkIn
import Derived.TacticsInMore
import Derived.LoopNIn
import Derived.LoopIn
import Derived.Test.YtgeneoamngfomaaGreatDoorLo
import Derived.Maps.AppendAt
import Derived.RegionIn
import Derived.Shelf.RegionOpen
import Derived.OrdersIn
import Derived.Deep.RegionHeld3
import Derived.TacticsIn
import Derived.Test.YtgeneoamngfomaaGreatDoorRtA
import Derived.Test.YtgeneoamngfomaaGreatDoorLy
import Derived.IntWalk
import Derived.Test.YtgeneoamngfomaaGreatDoorRefOR
import Derived.Lib.OwnBridge
import Derived.Lib.SlicesCompact
namespace Go.Proofs.YtgeneoamngfomaaGreatDoor
set_option linter.unusedVariables false

/-- A node. -/
structure Nd where
  op : Int
  a : Int
  b : Int
  num : Int
  den : Int
deriving DecidableEq, Inhabited
/-- An op's row in the table; 0: it is none. -/
def ixO (op : Int) : Nat := if 0 ≤ op ∧ op < 18 then op.toNat else 0
/-- What an op makes: 1 what can be observed, 2 a contract. -/
def mkT : List Nat := [0, 1, 1, 1, 1, 1, 1, 1, 1, 2, 2, 2, 2, 2, 2, 2, 2, 2]
def kdT : List (List Nat) := [[], [], [], [1], [1, 1], [1, 1], [1, 1], [1, 1], [1, 1], [], [], [2], [2, 2], [1, 2], [2], [1, 1, 2, 2], [2, 2], [2]]
def maT : List Nat := [0, 0, 63, 0, 0, 0, 0, 0, 0, 0, 7, 0, 0, 0, 73048, 0, 63, 63]
def mbT : List Nat := [0, 0, 0, 0, 0, 0, 0, 0, 0, 0, 0, 0, 0, 0, 0, 0, 0, 73048]
def mkO (op : Int) : Nat := mkT.getD (ixO op) 0
def kdO (op : Int) : List Nat := kdT.getD (ixO op) []
def cnO (op : Int) : Nat := (kdO op).length
theorem ixO_lt (op : Int) : ixO op < 18 := by unfold ixO; split <;> omega
theorem cn_all : ∀ k < 18, (kdT.getD k []).length ≤ 4 := by decide
theorem cn_le (op : Int) : cnO op ≤ 4 := cn_all _ (ixO_lt op)
theorem mk_all : ∀ k < 18, mkT.getD k 0 ≤ 2 ∧ (mkT.getD k 0 = 0 → (kdT.getD k []).length = 0) := by decide
theorem mk_le (op : Int) : mkO op ≤ 2 := (mk_all _ (ixO_lt op)).1
/-- How many nodes so many terms have, that stand one behind the other at a row's beginning. -/
def scan : Nat → List Nd → Option Nat
  | 0, _ => some 0
  | _ + 1, [] => none
  | o + 1, n :: xs => if mkO n.op = 0 then none else (scan (o + cnO n.op) xs).map (· + 1)
theorem scan_zero (xs : List Nd) : scan 0 xs = some 0 := by cases xs <;> rfl
theorem scan_cons {o : Nat} {n : Nd} {xs : List Nd} (h : mkO n.op ≠ 0) : scan (o + 1) (n :: xs) = (scan (o + cnO n.op) xs).map (· + 1) := by rw [scan, if_neg h]
theorem scan_bad {o : Nat} {n : Nd} {xs : List Nd} (h : mkO n.op = 0) : scan (o + 1) (n :: xs) = none := by rw [scan, if_pos h]

theorem scan_add (b : Nat) : ∀ (xs : List Nd) (a : Nat), scan (a + b) xs = (scan a xs).bind fun k => (scan b (xs.drop k)).map (k + ·)
  | xs, 0 => by simp [scan_zero]
  | [], a + 1 => by rw [show a + 1 + b = (a + b) + 1 by omega]; rfl
  | n :: xs, a + 1 => by
    rw [show a + 1 + b = (a + b) + 1 by omega]
    by_cases h : mkO n.op = 0
    · rw [scan_bad h, scan_bad h]; rfl
    · rw [scan_cons h, scan_cons h, show a + b + cnO n.op = (a + cnO n.op) + b by omega, scan_add b xs (a + cnO n.op)]
      cases scan (a + cnO n.op) xs with
      | none => rfl
      | some k =>
        simp only [Option.bind_some, Option.map_some, List.drop_succ_cons]
        cases scan b (xs.drop k) with
        | none => rfl
        | some m => simp; omega

theorem scan_bd : ∀ (xs : List Nd) (o k : Nat), scan o xs = some k → o ≤ k ∧ k ≤ xs.length
  | xs, 0, k, h => by rw [scan_zero] at h; cases h; simp
  | [], o + 1, k, h => by cases h
  | n :: xs, o + 1, k, h => by
    by_cases c : mkO n.op = 0
    · rw [scan_bad c] at h; cases h
    · rw [scan_cons c] at h
      obtain ⟨m, hm, rfl⟩ := Option.map_eq_some_iff.1 h
      have := scan_bd xs _ _ hm
      simp; omega

/-- Only what is within counts. -/
theorem scan_app : ∀ (xs : List Nd) (o k : Nat) (ys : List Nd), scan o xs = some k → scan o (xs.take k ++ ys) = some k
  | xs, 0, k, ys, h => by rw [scan_zero] at h; cases h; simp [scan_zero]
  | [], o + 1, k, _, h => by cases h
  | n :: xs, o + 1, k, ys, h => by
    by_cases c : mkO n.op = 0
    · rw [scan_bad c] at h; cases h
    · rw [scan_cons c] at h
      obtain ⟨m, hm, rfl⟩ := Option.map_eq_some_iff.1 h
      rw [List.take_succ_cons, List.cons_append, scan_cons c, scan_app xs _ m ys hm]; rfl
theorem scan_take {xs : List Nd} {o k : Nat} (h : scan o xs = some k) {m : Nat} (hm : k ≤ m) : scan o (xs.take m) = some k := by
  have := scan_app xs o k ((xs.take m).drop k) h
  rwa [show xs.take k = (xs.take m).take k by rw [List.take_take, Nat.min_eq_left hm], List.take_append_drop] at this
/-- What all of the row is, is so with more behind it. -/
theorem scan_more {xs : List Nd} {o k : Nat} (h : scan o xs = some k) (ys : List Nd) : scan o (xs ++ ys) = some k := by
  have hb := (scan_bd xs o k h).2
  have := scan_app xs o k (xs.drop k ++ ys) h
  rwa [← List.append_assoc, List.take_append_drop] at this

/-- How many nodes the term from a place on has. -/
def szA (t : List Nd) (p : Nat) : Nat := (scan 1 (t.drop p)).getD 0
/-- Does a term begin there? -/
def TmA (t : List Nd) (p : Nat) : Prop := ∃ n, scan 1 (t.drop p) = some n
theorem TmA.eq {t : List Nd} {p : Nat} (h : TmA t p) : scan 1 (t.drop p) = some (szA t p) := by
  obtain ⟨n, hn⟩ := h; unfold szA; rw [hn]; rfl
theorem TmA.of {t : List Nd} {p n : Nat} (h : scan 1 (t.drop p) = some n) : TmA t p ∧ szA t p = n := ⟨⟨n, h⟩, by unfold szA; rw [h]; rfl⟩
theorem TmA.bd {t : List Nd} {p : Nat} (h : TmA t p) : 1 ≤ szA t p ∧ p + szA t p ≤ t.length := by
  have := scan_bd _ _ _ h.eq
  rw [List.length_drop] at this; omega
theorem TmA.lt {t : List Nd} {p : Nat} (h : TmA t p) : p < t.length := by have := h.bd; omega

def opA (t : List Nd) (p : Nat) : Int := (t.getD p default).op
theorem drop_cons {t : List Nd} {p : Nat} (h : p < t.length) : t.drop p = t.getD p default :: t.drop (p + 1) := by
  rw [List.drop_eq_getElem_cons h, List.getD_eq_getElem?_getD, List.getElem?_eq_getElem h]; rfl
/-- The terms below a node: so many of them, from a place on. -/
def plA (t : List Nd) (p : Nat) : Nat → Nat
  | 0 => p
  | i + 1 => plA t p i + szA t (plA t p i)

/-- So many terms stand there: each of them begins where the one ahead of it ends. -/
theorem scan_parts {t : List Nd} : ∀ (c p k : Nat), scan c (t.drop p) = some k → (∀ i, i < c → TmA t (plA t p i)) ∧ plA t p c = p + k
  | 0, p, k, h => by rw [scan_zero] at h; cases h; exact ⟨fun i hi => absurd hi (Nat.not_lt_zero i), rfl⟩
  | c + 1, p, k, h => by
    rw [show c + 1 = c + 1 from rfl, scan_add 1 _ c] at h
    obtain ⟨m, hm, h2⟩ := Option.bind_eq_some_iff.1 h
    obtain ⟨q, hq, rfl⟩ := Option.map_eq_some_iff.1 h2
    obtain ⟨h3, h4⟩ := scan_parts c p m hm
    rw [List.drop_drop, ← h4] at hq
    obtain ⟨h5, h6⟩ := TmA.of hq
    refine ⟨fun i hi => ?_, ?_⟩
    · by_cases e : i = c
      · subst e; exact h5
      · exact h3 i (by omega)
    · rw [plA, h4] at *
      rw [h6]; omega
theorem scan_of_parts {t : List Nd} : ∀ (c p : Nat), (∀ i, i < c → TmA t (plA t p i)) → ∃ k, scan c (t.drop p) = some k ∧ plA t p c = p + k
  | 0, p, _ => ⟨0, scan_zero _, rfl⟩
  | c + 1, p, h => by
    obtain ⟨k, hk, e⟩ := scan_of_parts c p (fun i hi => h i (by omega))
    have h2 := (h c (by omega)).eq
    rw [e] at h2
    refine ⟨k + szA t (p + k), ?_, by rw [plA, e]; omega⟩
    rw [scan_add 1 _ c, hk, Option.bind_some, List.drop_drop, h2]; rfl

/-- What a term is made of. -/
theorem TmA.parts {t : List Nd} {p : Nat} (h : TmA t p) : mkO (opA t p) ≠ 0 ∧ (∀ i, i < cnO (opA t p) → TmA t (plA t (p + 1) i)) ∧ plA t (p + 1) (cnO (opA t p)) = p + szA t p := by
  have e := h.eq
  rw [drop_cons h.lt] at e
  have hm : mkO (opA t p) ≠ 0 := fun c => by rw [scan_bad c] at e; cases e
  rw [scan_cons hm] at e
  obtain ⟨m, hm2, h2⟩ := Option.map_eq_some_iff.1 e
  rw [Nat.zero_add] at hm2
  obtain ⟨h3, h4⟩ := scan_parts _ _ _ hm2
  exact ⟨hm, h3, h4.trans (by omega)⟩
theorem TmA.mk {t : List Nd} {p : Nat} (hp : p < t.length) (hm : mkO (opA t p) ≠ 0) (h : ∀ i, i < cnO (opA t p) → TmA t (plA t (p + 1) i)) : TmA t p := by
  obtain ⟨k, hk, _⟩ := scan_of_parts _ _ h
  exact ⟨k + 1, by rw [drop_cons hp, scan_cons hm, Nat.zero_add]; exact (by rw [show (t.getD p default).op = opA t p from rfl, hk]; rfl)⟩
theorem plA_mono {t : List Nd} {p : Nat} {i j : Nat} (h : i ≤ j) : plA t p i ≤ plA t p j := by
  induction j with
  | zero => rw [show i = 0 by omega]; exact Nat.le_refl _
  | succ j ih =>
    by_cases e : i = j + 1
    · rw [e]; exact Nat.le_refl _
    · exact Nat.le_trans (ih (by omega)) (Nat.le_add_right _ _)
/-- A term below stands within, and is smaller. -/
theorem TmA.kid {t : List Nd} {p : Nat} (h : TmA t p) {i : Nat} (hi : i < cnO (opA t p)) : TmA t (plA t (p + 1) i) ∧ p < plA t (p + 1) i ∧ plA t (p + 1) i + szA t (plA t (p + 1) i) ≤ p + szA t p := by
  obtain ⟨_, h2, h3⟩ := h.parts
  refine ⟨h2 i hi, ?_, ?_⟩
  · have := plA_mono (t := t) (p := p + 1) (Nat.zero_le i)
    exact this
  · have := plA_mono (t := t) (p := p + 1) (show i + 1 ≤ cnO (opA t p) from hi)
    rw [h3] at this
    exact this

/-- The greatest of some numbers; 0 of none. -/
def mxN (g : Nat → Nat) : Nat → Nat
  | 0 => 0
  | i + 1 => max (mxN g i) (g i)
theorem mxN_congr {g g' : Nat → Nat} : ∀ c, (∀ i, i < c → g i = g' i) → mxN g c = mxN g' c
  | 0, _ => rfl
  | c + 1, h => by rw [mxN, mxN, mxN_congr c (fun i hi => h i (by omega)), h c (by omega)]
theorem le_mxN {g : Nat → Nat} : ∀ {c i : Nat}, i < c → g i ≤ mxN g c
  | c + 1, i, h => by
    by_cases e : i = c
    · subst e; exact Nat.le_max_right _ _
    · exact Nat.le_trans (le_mxN (show i < c by omega)) (Nat.le_max_left _ _)
theorem mxN_le {g : Nat → Nat} {b : Nat} : ∀ c, (∀ i, i < c → g i ≤ b) → mxN g c ≤ b
  | 0, _ => Nat.zero_le _
  | c + 1, h => Nat.max_le.2 ⟨mxN_le c (fun i hi => h i (by omega)), h c (by omega)⟩

/-- How many nodes stand above one another. -/
def dpF (t : List Nd) : Nat → Nat → Nat
  | 0, _ => 0
  | f + 1, p => mxN (fun i => dpF t f (plA t (p + 1) i)) (cnO (opA t p)) + 1
def dpA (t : List Nd) (p : Nat) : Nat := dpF t (szA t p) p
theorem dpF_eq {t : List Nd} : ∀ (f p : Nat), TmA t p → szA t p ≤ f → dpF t f p = dpA t p
  | 0, p, h, hf => by have := h.bd; omega
  | f + 1, p, h, hf => by
    have hb := h.bd
    obtain ⟨g, hg⟩ : ∃ g, szA t p = g + 1 := ⟨szA t p - 1, by omega⟩
    unfold dpA
    rw [hg, dpF, dpF]
    congr 1
    refine mxN_congr _ (fun i hi => ?_)
    obtain ⟨k1, k2, k3⟩ := h.kid hi
    rw [dpF_eq f _ k1 (by omega)]
    exact (dpF_eq g _ k1 (by omega)).symm
termination_by f _ => f
decreasing_by all_goals omega
theorem dpA_eq {t : List Nd} {p : Nat} (h : TmA t p) : dpA t p = mxN (fun i => dpA t (plA t (p + 1) i)) (cnO (opA t p)) + 1 := by
  have hb := h.bd
  obtain ⟨g, hg⟩ : ∃ g, szA t p = g + 1 := ⟨szA t p - 1, by omega⟩
  rw [← dpF_eq (g + 1) p h (by omega), dpF]
  congr 1
  refine mxN_congr _ (fun i hi => ?_)
  obtain ⟨k1, k2, k3⟩ := h.kid hi
  exact dpF_eq g _ k1 (by omega)
end Go.Proofs.YtgeneoamngfomaaGreatDoor

namespace Go.Proofs.YtgeneoamngfomaaGreatDoor
open Go.RowKit Go.Lib
set_option linter.unusedVariables false

/-- The table of kinds: a row of eight cells for each op. -/
def kdC (k j : Nat) : Nat := (kdT.getD k []).getD j 0
def maN (k : Nat) : Nat := maT.getD k 0
def mbN (k : Nat) : Nat := mbT.getD k 0
def mkN (k : Nat) : Nat := mkT.getD k 0
def vlB (k : Nat) : Bool := k == 1
structure KndW (w : World) : Prop where
  c0 : ∀ k, k < 18 → w.cell? ⟨0, k * 8, none⟩ = some (.int .i64 (mkN k))
  c1 : ∀ k, k < 18 → w.cell? ⟨0, k * 8 + 1, none⟩ = some (.int .i64 (kdC k 0))
  c2 : ∀ k, k < 18 → w.cell? ⟨0, k * 8 + 2, none⟩ = some (.int .i64 (kdC k 1))
  c3 : ∀ k, k < 18 → w.cell? ⟨0, k * 8 + 3, none⟩ = some (.int .i64 (kdC k 2))
  c4 : ∀ k, k < 18 → w.cell? ⟨0, k * 8 + 4, none⟩ = some (.int .i64 (kdC k 3))
  c5 : ∀ k, k < 18 → w.cell? ⟨0, k * 8 + 5, none⟩ = some (.int .i64 (maN k))
  c6 : ∀ k, k < 18 → w.cell? ⟨0, k * 8 + 6, none⟩ = some (.int .i64 (mbN k))
  c7 : ∀ k, k < 18 → w.cell? ⟨0, k * 8 + 7, none⟩ = some (.bool (vlB k))
theorem ltT {w : World} {b i : Nat} {v : Value} (h : w.cell? ⟨b, i, none⟩ = some v) : b < w.heap.size := by
  rcases Nat.lt_or_ge b w.heap.size with g | g
  · exact g
  · simp [World.cell?, Array.getElem?_eq_none g] at h
theorem keepT {w w' : World} {b i : Nat} {v : Value} (hb : Below w.heap.size w w') (h : w.cell? ⟨b, i, none⟩ = some v) : w'.cell? ⟨b, i, none⟩ = some v := (hb.cell (p := ⟨b, i, none⟩) (ltT h)).trans h
theorem KndW.keep {w w' : World} (h : KndW w) (hb : Below w.heap.size w w') : KndW w' :=
  ⟨fun k hk => keepT hb (h.c0 k hk), fun k hk => keepT hb (h.c1 k hk), fun k hk => keepT hb (h.c2 k hk), fun k hk => keepT hb (h.c3 k hk), fun k hk => keepT hb (h.c4 k hk), fun k hk => keepT hb (h.c5 k hk), fun k hk => keepT hb (h.c6 k hk), fun k hk => keepT hb (h.c7 k hk)⟩
theorem newT {w : World} {b i : Nat} {v : Value} (h : w.cell? ⟨b, i, none⟩ = some v) (o : Obj) : (w.alloc o).cell? ⟨b, i, none⟩ = some v := by
  rw [World.cell?_alloc_past _ _ _ (ltT h)]; exact h
theorem newB (w : World) (o : Obj) : Below w.heap.size w (w.alloc o) := Below.alloc (Below.refl _ _) (Nat.le_refl _) _
theorem onB {w w1 w2 : World} (h : Below w.heap.size w w1) (h' : Below w1.heap.size w1 w2) : Below w.heap.size w w2 := h.trans (h'.mono h.size)
/-- An op's row as a value. -/
def rowC (k : Nat) : Array Value := #[.int .i64 (mkN k), .int .i64 (kdC k 0), .int .i64 (kdC k 1), .int .i64 (kdC k 2), .int .i64 (kdC k 3), .int .i64 (maN k), .int .i64 (mbN k), .bool (vlB k)]

set_option maxHeartbeats 1000000 in
set_option maxRecDepth 100000 in
theorem kindof_yes (k : Nat) (hk : k < 18) (w : World) (C : KndW w) : Calls Tryz.prog 135 #[.int .i64 k] w fun e w' => e = .returned (.agg (rowC k)) ∧ Below w.heap.size w w' := by
  have i0 : (0 : Int) ≤ (k : Int) := by omega
  have i1 : (k : Int) < 18 := by omega
  have hc0 := newT (C.c0 k hk)
  have hc1 := newT (C.c1 k hk)
  have hc2 := newT (C.c2 k hk)
  have hc3 := newT (C.c3 k hk)
  have hc4 := newT (C.c4 k hk)
  have hc5 := newT (C.c5 k hk)
  have hc6 := newT (C.c6 k hk)
  have hc7 := newT (C.c7 k hk)
  unfold rowC
  generalize mkN k = m0 at *
  generalize kdC k 0 = m1 at *
  generalize kdC k 1 = m2 at *
  generalize kdC k 2 = m3 at *
  generalize kdC k 3 = m4 at *
  generalize maN k = m5 at *
  generalize mbN k = m6 at *
  generalize vlB k = m7 at *
  clear C
  go_enter Tryz.func135, Tryz.ntmps135
  go_wp2_with fail
  exact bodyPost_ret (v := .agg #[.int .i64 m0, .int .i64 m1, .int .i64 m2, .int .i64 m3, .int .i64 m4, .int .i64 m5, .int .i64 m6, .bool m7]) (by simp [results, Tryz.results135, go_sem]) rfl ⟨rfl, newB w _⟩
theorem row_zero : rowC 0 = #[.int .i64 0, .int .i64 0, .int .i64 0, .int .i64 0, .int .i64 0, .int .i64 0, .int .i64 0, .bool false] := rfl
set_option maxHeartbeats 1000000 in
set_option maxRecDepth 100000 in
theorem kindof_no (op : Int) (h : op < 0 ∨ 18 ≤ op) (w : World) : Calls Tryz.prog 135 #[.int .i64 op] w fun e w' => e = .returned (.agg (rowC 0)) ∧ Below w.heap.size w w' := by
  rw [row_zero]
  rcases h with h | h
  · go_enter Tryz.func135, Tryz.ntmps135
    go_wp2_with fail
    exact bodyPost_ret (v := .agg #[.int .i64 0, .int .i64 0, .int .i64 0, .int .i64 0, .int .i64 0, .int .i64 0, .int .i64 0, .bool false]) (by simp [results, Tryz.results135, go_sem]) rfl ⟨rfl, newB w _⟩
  · have h0 : 0 ≤ op := by omega
    go_enter Tryz.func135, Tryz.ntmps135
    go_wp2_with fail
    exact bodyPost_ret (v := .agg #[.int .i64 0, .int .i64 0, .int .i64 0, .int .i64 0, .int .i64 0, .int .i64 0, .int .i64 0, .bool false]) (by simp [results, Tryz.results135, go_sem]) rfl ⟨rfl, newB w _⟩
theorem kindof_any (op : Int) (w : World) (C : KndW w) : Calls Tryz.prog 135 #[.int .i64 op] w fun e w' => e = .returned (.agg (rowC (ixO op))) ∧ Below w.heap.size w w' := by
  by_cases h : 0 ≤ op ∧ op < 18
  · have e : ixO op = op.toNat := by unfold ixO; rw [if_pos h]
    rw [e]
    have := kindof_yes op.toNat (by omega) w C
    rwa [show ((op.toNat : Nat) : Int) = op by omega] at this
  · have e : ixO op = 0 := by unfold ixO; rw [if_neg h]
    rw [e]
    exact kindof_no op (by omega) w

theorem kd_all : ∀ k < 18, ∀ j < 5, (j < (kdT.getD k []).length → kdC k j ≠ 0 ∧ kdC k j ≤ 2) ∧ ((kdT.getD k []).length ≤ j → kdC k j = 0) := by decide
def cnN (k : Nat) : Nat := (kdT.getD k []).length
set_option maxHeartbeats 1000000 in
set_option maxRecDepth 100000 in
theorem count_any (k : Nat) (hk : k < 18) (w : World) : Calls Tryz.prog 136 #[.agg (rowC k)] w fun e w' => e = .returned (.int .i64 (cnN k)) ∧ Below w.heap.size w w' := by
  have hn4 : cnN k ≤ 4 := cn_all k hk
  have hcell : ∀ j, j < 4 → (w.alloc (.cells (rowC k) 216)).cell? ⟨w.heap.size, 1 + j, none⟩ = some (.int .i64 (kdC k j)) := fun j hj => by
    rw [World.cell?_alloc_at _ _ _ _ rfl]
    match j, hj with
    | 0, _ => rfl
    | 1, _ => rfl
    | 2, _ => rfl
    | 3, _ => rfl
  have HK := Lib.hid (fun j hj => kd_all k hk j hj)
  have HC := Lib.hid hcell
  have HB := Lib.hid (newB w (.cells (rowC k) 216))
  have hsz : (rowC k).size = 8 := rfl
  generalize rowC k = R at *
  clear hcell
  go_enter Tryz.func136, Tryz.ntmps136
  go_wp2_with fail
  go_loopw [3] (fun vn wx => ∃ n : Nat, n ≤ cnN k ∧ vn = .int .i64 n ∧ wx = w.alloc (.cells R 216)) (fun vn _ => 4 - (RowKit.intOf vn).toNat)
  case atStart => exact ⟨0, Nat.zero_le _, rfl, rfl⟩
  case round =>
    obtain ⟨n, hn, rfl, rfl⟩ := hrel
    by_cases hlt : n < cnN k
    · have i0 : (0 : Int) ≤ (n : Int) := by omega
      have i1 : (n : Int) < 4 := by omega
      have hc := HC.out n (by omega)
      have hz : (((kdC k n : Nat) : Int) == 0) = false := by
        have := ((HK.out n (by omega)).1 hlt).1
        simp; omega
      generalize kdC k n = c at *
      go_wp2_with fail
      go_roundw
      case rel => exact ⟨n + 1, by omega, by go_num, trivial⟩
      case measure => simp [RowKit.intOf]; omega
    · obtain rfl : n = cnN k := by omega
      by_cases h4 : cnN k < 4
      · have i0 : (0 : Int) ≤ ((cnN k : Nat) : Int) := by omega
        have i1 : ((cnN k : Nat) : Int) < 4 := by omega
        have hc := HC.out (cnN k) (by omega)
        rw [(HK.out (cnN k) (by omega)).2 (Nat.le_refl _)] at hc
        go_wp2_with fail
        go_ret
        exact ⟨rfl, HB.out⟩
      · have e4 : cnN k = 4 := by omega
        rw [e4]
        go_wp2_with fail
        go_ret
        refine ⟨?_, HB.out⟩
        rw [e4]; rfl

theorem fieldT (a b c d e f g h : Value) (w : World) : (Instr.field 216 (.agg #[a, b, c, d, e, f, g, h]) 0).run Tryz.prog w = .ok a w := by kernel_rfl
set_option maxHeartbeats 1000000 in
set_option maxRecDepth 100000 in
theorem tsort_any (op : Int) (w : World) (C : KndW w) : Calls Tryz.prog 115 #[.int .i64 op] w fun e w' => e = .returned (.int .i64 (mkO op)) ∧ Below w.heap.size w w' := by
  have HA := Lib.hid (kindof_any op w C)
  have hm : (mkO op : Nat) = mkN (ixO op) := rfl
  rw [hm]
  unfold rowC at HA
  clear C hm
  generalize mkN (ixO op) = m0 at *
  have hf := fieldT
  go_enter Tryz.func115, Tryz.ntmps115
  go_wp2_with fail
  refine HA.out.mono ?_
  rintro e w1 ⟨rfl, hb⟩
  go_wp2_with fail
  go_ret
  exact ⟨rfl, hb⟩

theorem rowC_is0 (k : Nat) : ∃ (m0 m1 m2 m3 m4 m5 m6 : Nat) (m7 : Bool), rowC k = #[.int .i64 m0, .int .i64 m1, .int .i64 m2, .int .i64 m3, .int .i64 m4, .int .i64 m5, .int .i64 m6, .bool m7] ∧ m0 = mkN k := ⟨_, _, _, _, _, _, _, _, rfl, rfl⟩
theorem rowC_is (k : Nat) : ∃ (m0 m1 m2 m3 m4 m5 m6 : Nat) (m7 : Bool), rowC k = #[.int .i64 m0, .int .i64 m1, .int .i64 m2, .int .i64 m3, .int .i64 m4, .int .i64 m5, .int .i64 m6, .bool m7] := ⟨_, _, _, _, _, _, _, _, rfl⟩
end Go.Proofs.YtgeneoamngfomaaGreatDoor

namespace Go.Proofs.YtgeneoamngfomaaGreatDoor
open Go.RowKit Go.Lib
set_option linter.unusedVariables false

/-- A node's cells. -/
structure NdC (w : World) (b p : Nat) (n : Nd) : Prop where
  c0 : w.cell? ⟨b, p, none⟩ = some (.int .i64 n.op)
  c1 : w.cell? ⟨b, p + 1, none⟩ = some (.int .i64 n.a)
  c2 : w.cell? ⟨b, p + 2, none⟩ = some (.int .i64 n.b)
  c3 : w.cell? ⟨b, p + 3, none⟩ = some (.int .i64 n.num)
  c4 : w.cell? ⟨b, p + 4, none⟩ = some (.int .i64 n.den)
theorem NdC.keep {w w' : World} {b p : Nat} {n : Nd} (h : NdC w b p n) (hb : Below w.heap.size w w') : NdC w' b p n :=
  ⟨keepT hb h.c0, keepT hb h.c1, keepT hb h.c2, keepT hb h.c3, keepT hb h.c4⟩
/-- A row of nodes. -/
def NdA (w : World) (b o : Nat) (t : List Nd) : Prop := ∀ j, j < t.length → NdC w b (o + j * 5) (t.getD j default)
theorem NdA.keep {w w' : World} {b o : Nat} {t : List Nd} (h : NdA w b o t) (hb : Below w.heap.size w w') : NdA w' b o t := fun j hj => (h j hj).keep hb

/-- What Size answers. -/
def szE (t : List Nd) (p : Nat) : Nat × Nat := match scan 1 (t.drop p) with
  | some n => (n, 0)
  | none => (0, 13)
theorem szE_ok {t : List Nd} {p : Nat} (h : TmA t p) : szE t p = (szA t p, 0) := by unfold szE; rw [h.eq]
theorem szE_no {t : List Nd} {p : Nat} (h : ¬ TmA t p) : szE t p = (0, 13) := by
  unfold szE
  cases e : scan 1 (t.drop p) with
  | none => rfl
  | some n => exact absurd ⟨n, e⟩ h

theorem ret_twoT {a b c d : Int} (h : a = c) (h' : b = d) : Ending.returned (.tuple #[.int .i64 a, .int .i64 b]) = .returned (.tuple #[.int .i64 c, .int .i64 d]) := by rw [h, h']
theorem size_out (a : Option Addr) (len cap : Nat) (hl : len ≤ 9223372036854775807) (p : Int) (h : p < 0 ∨ (len : Int) ≤ p) (w : World) : Calls Tryz.prog 111 #[.slice a len cap, .int .i64 p] w fun e w' => e = .returned (.tuple #[.int .i64 0, .int .i64 10]) ∧ w = w' := by
  rcases h with h | h
  · go_enter Tryz.func111, Tryz.ntmps111
    go_wp2_with fail
    go_ret2
    exact ⟨rfl, rfl⟩
  · have h0 : 0 ≤ p := by omega
    go_enter Tryz.func111, Tryz.ntmps111
    go_wp2_with fail
    go_ret2
    exact ⟨rfl, rfl⟩

set_option maxHeartbeats 2000000 in
set_option maxRecDepth 100000 in
theorem size_in (t : List Nd) (hL : t.length ≤ 100000) (b o cap : Nat) (hcap : t.length ≤ cap) (hcm : cap ≤ 9223372036854775807) (p : Nat) (hp : p < t.length) (w : World) (hN : NdA w b o t) (C : KndW w) :
    Calls Tryz.prog 111 #[.slice (some ⟨b, o, none⟩) t.length cap, .int .i64 p] w fun e w' => e = .returned (.tuple #[.int .i64 (szE t p).1, .int .i64 (szE t p).2]) ∧ Below w.heap.size w w' := by
  have HN := Lib.hid hN
  have HC := Lib.hid C
  obtain ⟨r1, hr1⟩ : ∃ r, r = (szE t p).1 := ⟨_, rfl⟩
  obtain ⟨r2, hr2⟩ : ∃ r, r = (szE t p).2 := ⟨_, rfl⟩
  rw [← hr1, ← hr2]
  have HR : Hid (r1 = (szE t p).1 ∧ r2 = (szE t p).2) := Lib.hid ⟨hr1, hr2⟩
  clear hr1 hr2
  have hp0 : (0 : Int) ≤ (p : Int) := by omega
  have hp1 : (p : Int) < (t.length : Int) := by omega
  have hp2 : (p : Int) ≤ (t.length : Int) := by omega
  have hp3 : ¬ (t.length : Int) ≤ (p : Int) := by omega
  have hc1 : (t.length : Int) ≤ (cap : Int) := by omega
  clear hN C
  go_enter Tryz.func111, Tryz.ntmps111
  go_wp2_with fail
  obtain ⟨m, hm⟩ : ∃ m, m = t.length - p := ⟨_, rfl⟩
  rw [← hm]
  have HM := Lib.hid hm
  clear hp0 hp1 hp2 hp3 hc1 hm
  go_loopw [6, 22] (fun vo vi wx => ∃ q i : Nat, i ≤ m ∧ 1 ≤ q ∧ q ≤ 1 + 4 * i ∧ vi = .int .i64 i ∧ vo = .int .i64 q ∧ scan 1 (t.drop p) = (scan q (t.drop (p + i))).map (i + ·) ∧ Below w.heap.size w wx) (fun _ vi _ => m - (RowKit.intOf vi).toNat)
  case atStart => exact ⟨1, 0, Nat.zero_le _, Nat.le_refl _, by omega, rfl, rfl, by simp, Below.refl _ _⟩
  case round =>
    obtain ⟨q, i, hi, hq1, hq2, rfl, rfl, hsc, hb⟩ := hrel
    have HM' := HM.out
    have HS := Lib.hid hsc
    have HB := Lib.hid hb
    by_cases hlt : i < m
    · have hpi : p + i < t.length := by omega
      have hnc := (HN.out.keep hb) (p + i) hpi
      obtain ⟨n, hn⟩ : ∃ n, n = t.getD (p + i) default := ⟨_, rfl⟩
      rw [← hn, show o + (p + i) * 5 = o + p * 5 + i * 5 by omega] at hnc
      have HD : Hid (t.drop (p + i) = n :: t.drop (p + i + 1)) := Lib.hid (by rw [hn]; exact drop_cons hpi)
      obtain ⟨e0, e1, e2, e3, e4⟩ := hnc
      have HK := Lib.hid (fun w' (hb : Below wr.heap.size wr w') => kindof_any n.op w' ((HC.out.keep HB.out).keep hb))
      have HCt := Lib.hid (fun w => count_any (ixO n.op) (ixO_lt n.op) w)
      have hix := ixO_lt n.op
      have HE : Hid (mkO n.op = mkN (ixO n.op) ∧ cnO n.op = cnN (ixO n.op)) := Lib.hid ⟨rfl, rfl⟩
      have hcn := cn_le n.op
      rw [HE.out.2] at hcn
      generalize ixO n.op = k at *
      clear hsc hb hn HM'
      have i0 : (0 : Int) ≤ (i : Int) := by omega
      have i1 : (i : Int) < (m : Int) := by omega
      obtain ⟨m0, m1, m2, m3, m4, m5, m6, m7, hR, hm0⟩ := rowC_is0 k
      have HM0 := Lib.hid hm0
      rw [hR] at HK HCt
      clear hR hm0
      have HNew := Lib.hid (newB wr)
      by_cases hz : m0 = 0
      · subst hz
        have HZ : Hid (szE t p = (0, 13)) := Lib.hid (by
          unfold szE
          rw [HS.out, HD.out]
          obtain ⟨q', rfl⟩ : ∃ q', q = q' + 1 := ⟨q - 1, by omega⟩
          rw [scan_bad (HE.out.1.trans HM0.out.symm)]; rfl)
        go_wp2_with fail
        refine (HK.out _ (HNew.out _)).mono ?_
        rintro e w1 ⟨rfl, hb1⟩
        have HB1 := Lib.hid hb1
        clear hb1
        go_wp2_with fail
        go_ret2
        exact ⟨ret_twoT (by rw [HR.out.1, HZ.out]; rfl) (by rw [HR.out.2, HZ.out]; rfl), onB HB.out (onB (HNew.out _) (onB HB1.out (newB _ _)))⟩
      · have hzb : ((m0 : Int) == 0) = false := by simp; omega
        have HZ := Lib.hid hz
        have hq1' : (1 : Int) ≤ (q : Int) := by omega
        have hq2' : (q : Int) ≤ 1000000 := by omega
        have hc1 : ((cnN k : Nat) : Int) ≤ 4 := by omega
        have hc0 : 0 ≤ ((cnN k : Nat) : Int) := by omega
        have HSt : Hid (scan q (t.drop (p + i)) = (scan (q - 1 + cnN k) (t.drop (p + i + 1))).map (· + 1)) := Lib.hid (by
          rw [HD.out]
          obtain ⟨q', rfl⟩ : ∃ q', q = q' + 1 := ⟨q - 1, by omega⟩
          rw [scan_cons (fun e => HZ.out (HM0.out.trans (HE.out.1.symm.trans e))), HE.out.2]; rfl)
        clear hz
        by_cases h0 : q - 1 + cnN k = 0
        · have HAns : Hid (szE t p = (i + 1, 0)) := Lib.hid (by
            unfold szE
            rw [HS.out, HSt.out, h0, scan_zero]; rfl)
          obtain rfl : q = 1 := by omega
          have hcz : cnN k = 0 := by omega
          rw [hcz] at HCt
          clear h0
          go_wp2_with fail
          refine (HK.out _ (HNew.out _)).mono ?_
          rintro e w1 ⟨rfl, hb1⟩
          have HB1 := Lib.hid hb1
          clear hb1
          go_wp2_with fail
          refine (HCt.out _).mono ?_
          rintro e w2 ⟨rfl, hb2⟩
          have HB2 := Lib.hid hb2
          clear hb2
          go_wp2_with fail
          go_ret2
          exact ⟨ret_twoT (by rw [HR.out.1, HAns.out]; rfl) (by rw [HR.out.2, HAns.out]; rfl), onB HB.out (onB (HNew.out _) (onB HB1.out (onB (newB _ _) HB2.out)))⟩
        · generalize cnN k = c at *
          have hne : ((q : Int) + ((c : Int) - 1) == 0) = false := by simp; omega
          have HQ : Hid (0 < q - 1 + c) := Lib.hid (by omega)
          clear h0
          go_wp2_with fail
          refine (HK.out _ (HNew.out _)).mono ?_
          rintro e w1 ⟨rfl, hb1⟩
          have HB1 := Lib.hid hb1
          clear hb1
          go_wp2_with fail
          refine (HCt.out _).mono ?_
          rintro e w2 ⟨rfl, hb2⟩
          have HB2 := Lib.hid hb2
          clear hb2
          go_wp2_with fail
          go_roundw
          case rel =>
            have := HQ.out
            exact ⟨q - 1 + c, i + 1, by omega, by omega, by omega, by go_num, by go_num, by rw [HS.out, HSt.out, show p + (i + 1) = p + i + 1 by omega]; cases scan (q - 1 + c) (t.drop (p + i + 1)) <;> simp <;> omega, onB HB.out (onB (HNew.out _) (onB HB1.out (onB (newB _ _) HB2.out)))⟩
          case measure => simp [RowKit.intOf]; omega
    · obtain rfl : i = m := by omega
      have HZ : Hid (szE t p = (0, 13)) := Lib.hid (by
        unfold szE
        rw [HS.out, show p + i = t.length by omega, List.drop_length]
        obtain ⟨q', rfl⟩ : ∃ q', q = q' + 1 := ⟨q - 1, by omega⟩
        rfl)
      clear hsc hb HM'
      go_wp2_with fail
      go_ret2
      exact ⟨ret_twoT (by rw [HR.out.1, HZ.out]; rfl) (by rw [HR.out.2, HZ.out]; rfl), HB.out⟩

end Go.Proofs.YtgeneoamngfomaaGreatDoor

namespace Go.Proofs.YtgeneoamngfomaaGreatDoor
open Go.RowKit Go.Lib Go.Shelf
set_option linter.unusedVariables false
attribute [local go_sem] Oper.semAt_some

theorem grownT {w w' : World} (h : Below w.heap.size w w') : w.grownBy w' none := ⟨h.os, h.tape, h.output, h.size, fun k hk _ => h.block k hk⟩
theorem abideT {β : Type} {B : Nat} {J : β → World → Prop} (h : AbidesFrom B J) {s : β} {w w' : World} (hs : J s w) (hb : Below w.heap.size w w') : J s w' := h s w w' none hs (grownT hb) (fun r e => by cases e)
theorem wide_in {n : Nat} {P : Program} {f : FuncId} {args : Array Value} {w : World} {R R' : Ending → World → Prop} (h : Calls P f args w R) (hm : ∀ e w', R e w' → R' e w') : Fence.wide.fn f ∧ (Fence.wide.depth.isSome = true → 1 ≤ n) ∧ CallsIn Fence.wide (n - 1) P f args w R' :=
  ⟨trivial, fun h => (by cases h), (callsIn_wide.2 h).mono hm⟩
theorem wide_in2 {m : Nat} {P : Program} {f : FuncId} {args : Array Value} {w : World} {R R' : Ending → World → Prop} (h : Calls P f args w R) (hm : ∀ e w', R e w' → R' e w') : Fence.wide.fn f ∧ CallsIn Fence.wide m P f args w R' :=
  ⟨trivial, (callsIn_wide.2 h).mono hm⟩
theorem keepN {w w' : World} {n₀ b i : Nat} {v : Value} (hb : Below n₀ w w') (h0 : b < n₀) (h : w.cell? ⟨b, i, none⟩ = some v) : w'.cell? ⟨b, i, none⟩ = some v := (hb.cell (p := ⟨b, i, none⟩) h0).trans h
theorem NdC.keepN {w w' : World} {n₀ b p : Nat} {n : Nd} (h : NdC w b p n) (hb : Below n₀ w w') (h0 : b < n₀) : NdC w' b p n :=
  ⟨YtgeneoamngfomaaGreatDoor.keepN hb h0 h.c0, YtgeneoamngfomaaGreatDoor.keepN hb h0 h.c1, YtgeneoamngfomaaGreatDoor.keepN hb h0 h.c2, YtgeneoamngfomaaGreatDoor.keepN hb h0 h.c3, YtgeneoamngfomaaGreatDoor.keepN hb h0 h.c4⟩
theorem NdA.keepN {w w' : World} {n₀ b o : Nat} {t : List Nd} (h : NdA w b o t) (hb : Below n₀ w w') (h0 : b < n₀) : NdA w' b o t := fun j hj => (h j hj).keepN hb h0
theorem KndW.keepN {w w' : World} {n₀ : Nat} (h : KndW w) (hb : Below n₀ w w') (h0 : 0 < n₀) : KndW w' :=
  ⟨fun k hk => YtgeneoamngfomaaGreatDoor.keepN hb h0 (h.c0 k hk), fun k hk => YtgeneoamngfomaaGreatDoor.keepN hb h0 (h.c1 k hk), fun k hk => YtgeneoamngfomaaGreatDoor.keepN hb h0 (h.c2 k hk), fun k hk => YtgeneoamngfomaaGreatDoor.keepN hb h0 (h.c3 k hk), fun k hk => YtgeneoamngfomaaGreatDoor.keepN hb h0 (h.c4 k hk), fun k hk => YtgeneoamngfomaaGreatDoor.keepN hb h0 (h.c5 k hk), fun k hk => YtgeneoamngfomaaGreatDoor.keepN hb h0 (h.c6 k hk), fun k hk => YtgeneoamngfomaaGreatDoor.keepN hb h0 (h.c7 k hk)⟩
/-- What a round that goes on keeps: what lies below, and one box. -/
def KpT (n₀ Bs : Nat) (W W' : World) : Prop := Below n₀ W W' ∧ ∀ v, W.cell? ⟨Bs, 0, none⟩ = some v → W'.cell? ⟨Bs, 0, none⟩ = some v
theorem KpT.trans {n₀ Bs : Nat} {A B C : World} (h : KpT n₀ Bs A B) (k : KpT n₀ Bs B C) : KpT n₀ Bs A C := ⟨h.1.trans k.1, fun v hv => k.2 v (h.2 v hv)⟩
theorem KpT.refl (n₀ Bs : Nat) (A : World) : KpT n₀ Bs A A := ⟨Below.refl _ _, fun _ h => h⟩
theorem KpT.of {n₀ Bs : Nat} {A B : World} (hn : n₀ ≤ A.heap.size) (h : Below A.heap.size A B) : KpT n₀ Bs A B := ⟨h.mono hn, fun v hv => keepT h hv⟩
theorem KpT.put {n₀ Bs s : Nat} (hn : n₀ ≤ s) (W : World) (l : Nat) (o o' : Obj) (h : s ≤ l) (hl : W.heap[l]? = some o) (hc : o.isCells = false) : KpT n₀ Bs W (W.putObj l o') :=
  ⟨(Below.refl n₀ W).grown (grownBy_putObj' W l o') (by
      have := (Array.getElem?_eq_some_iff.1 hl).1
      omega) (fun k e => by cases e; omega), fun v hv => cell_kept hv (grownBy_putObj' W l o') (fun r e => by cases e; exact ⟨o, hl, hc⟩)⟩
/-- What has come when k rounds are over. -/
def uptoT {α : Type} (f : Nat → α) (k : Nat) : List α := (List.range k).map f
theorem uptoT_succ {α : Type} (f : Nat → α) (k : Nat) : uptoT f (k + 1) = uptoT f k ++ [f k] := by simp [uptoT, List.range_succ]
theorem uptoT_length {α : Type} (f : Nat → α) (k : Nat) : (uptoT f k).length = k := by simp [uptoT]
/-- The first of the terms below, as a row of their numbers. -/
def upF (c : Nat) : (k : Nat) → k ≤ c → List (Fin c)
  | 0, _ => []
  | k + 1, h => upF c k (Nat.le_of_succ_le h) ++ [⟨k, h⟩]
theorem upF_length (c : Nat) : ∀ k h, (upF c k h).length = k
  | 0, _ => rfl
  | k + 1, h => by rw [upF, List.length_append, upF_length c k]; rfl
theorem upF_map {β : Type} (c : Nat) (g : Nat → β) : ∀ k h, (upF c k h).map (fun x => g x.1) = uptoT g k
  | 0, _ => rfl
  | k + 1, h => by rw [upF, List.map_append, upF_map c g k, uptoT_succ]; rfl
/-- What yield is called with. -/
def encT (t : List Nd) (p c : Nat) (x : Fin c) : Array Value := #[.int .i64 (x.1 : Int), .int .i64 ((plA t (p + 1) x.1 : Nat) : Int)]

theorem below_make (a : Option Addr) (len cap : Nat) (p : Int) (w : World) : Calls Tryz.prog 116 #[.slice a len cap, .int .i64 p] w fun e w' => e = .returned (.func (.func 140) #[] #[.pointer (some ⟨w.heap.size + 1, 0, none⟩), .pointer (some ⟨w.heap.size, 0, none⟩)]) ∧ w' = (w.alloc (.cells #[.slice a len cap] 22)).alloc (.cells #[.int .i64 p] 3) := by
  go_enter Tryz.func116, Tryz.ntmps116
  go_wp2_with fail
  go_ret
  exact ⟨rfl, rfl⟩

set_option maxRecDepth 100000 in
set_option maxHeartbeats 4000000 in
theorem below_in (F : Fence) (n : Nat) (hF : F = Fence.wide) (l Bp Bs n₀ : Nat) (t : List Nd) (hL : t.length ≤ 1000) (b o cap p : Nat) (hcap : t.length ≤ cap) (hcm : cap ≤ 9223372036854775807) (hb : b < n₀) (hT : TmA t p) (c : Nat) (hc : c = cnO (opA t p)) (J Jx : List (Fin c) → World → Prop)
    (hY : ∀ pre x W, J pre W → pre.length < c → YieldAt F (n - 1) Tryz.prog l (encT t p c x) W fun e W' =>
      (e = .returned (.bool true) ∧ J (pre ++ [x]) W' ∧ KpT n₀ Bs W W') ∨ (e = .returned (.bool false) ∧ Jx (pre ++ [x]) W'))
    (hAb : ∀ pre W W', J pre W → Below W.heap.size W W' → J pre W')
    (W : World) (hBp : W.cell? ⟨Bp, 0, none⟩ = some (.int .i64 (p : Int))) (hBs : W.cell? ⟨Bs, 0, none⟩ = some (.slice (some ⟨b, o, none⟩) t.length cap)) (hn : n₀ ≤ W.heap.size) (hN : NdA W b o t) (C : KndW W) (hk0 : 0 < n₀) (h0 : J [] W) :
    CallsIn F n Tryz.prog 140 #[.func (.yield l) #[] #[], .pointer (some ⟨Bp, 0, none⟩), .pointer (some ⟨Bs, 0, none⟩)] W fun e W' => (∃ v, e = .returned v) ∧
      ((∃ ys, ys = upF c c (Nat.le_refl _) ∧ J ys W') ∨ (∃ pre, (∃ k h, pre = upF c k h) ∧ Jx pre W')) := by
  subst hF
  have hp := hT.lt
  obtain ⟨nd, hnd⟩ : ∃ nd, nd = t.getD p default := ⟨_, rfl⟩
  have hnc := hN p hp
  rw [← hnd] at hnc
  have HOp : Hid (opA t p = nd.op) := Lib.hid (by rw [hnd]; rfl)
  obtain ⟨e0, e1, e2, e3, e4⟩ := hnc
  have i0 : (0 : Int) ≤ (p : Int) := by omega
  have i1 : (p : Int) < (t.length : Int) := by omega
  have i2 : (p : Int) ≤ 1000 := by omega
  have HK := Lib.hid (kindof_any nd.op W C)
  have HCt := Lib.hid (fun w => count_any (ixO nd.op) (ixO_lt nd.op) w)
  have HCn : Hid (cnO nd.op = cnN (ixO nd.op)) := Lib.hid rfl
  have HN := Lib.hid hN
  have HC := Lib.hid C
  have HT := Lib.hid hT
  have HAb := Lib.hid hAb
  rw [HOp.out, HCn.out] at hc
  have hcn := cn_le nd.op
  rw [HCn.out] at hcn
  have HKid : Hid (∀ i, i < cnN (ixO nd.op) → TmA t (plA t (p + 1) i) ∧ p < plA t (p + 1) i ∧ plA t (p + 1) i + szA t (plA t (p + 1) i) ≤ p + szA t p) := Lib.hid (fun i hi => HT.out.kid (by rw [HOp.out, HCn.out]; exact hi))
  have hbd := hT.bd
  have HY := Lib.hid hY
  generalize ixO nd.op = kk at *
  clear hnd hN C hT hAb hY
  rw [← hc] at hcn HKid
  rw [← hc] at HCt
  clear hc HCn
  have c0 : (0 : Int) ≤ (c : Int) := by omega
  have c4 : (c : Int) ≤ 4 := by omega
  refine callsIn_of_wp Tryz.func140 rfl trivial ?_ rfl
  simp only [Tryz.ntmps140, List.size_toArray, List.length_cons, List.length_nil, Nat.reduceAdd, Nat.reduceSub, Array.replicate_succ, Array.replicate_zero, List.push_toArray, List.append_toArray, List.nil_append, List.cons_append]
  gi_wp2
  refine wide_in HK.out ?_
  rintro e w1 ⟨rfl, hb1⟩
  have HB1 := Lib.hid hb1
  clear hb1
  gi_wp2
  refine wide_in (HCt.out _) ?_
  rintro e w2 ⟨rfl, hb2⟩
  have HB2 := Lib.hid (onB HB1.out hb2)
  have HJ := Lib.hid (HAb.out _ _ _ h0 HB2.out)
  clear hb2 h0
  gi_wp2
  gi_loopw [4, 17] (fun vp vi wx => ∃ (k : Nat) (hk : k ≤ c), vi = .int .i64 k ∧ vp = .int .i64 (plA t (p + 1) k) ∧ J (upF c k hk) wx ∧ KpT n₀ Bs W wx) (fun _ vi _ => 4 - (RowKit.intOf vi).toNat)
  case atStart => exact ⟨0, Nat.zero_le _, rfl, rfl, HJ.out, KpT.of hn HB2.out⟩
  case round =>
    obtain ⟨k, hk, rfl, rfl, hJs, hbx⟩ := hrel
    have HBx := Lib.hid hbx
    have HJs := Lib.hid hJs
    by_cases hlt : k < c
    · obtain ⟨fn, tmps, assign, body, hy, hR⟩ := HY.out _ ⟨k, hlt⟩ wr hJs (by rw [upF_length]; exact hlt)
      dsimp only [encT] at hy
      have k0 : (0 : Int) ≤ (k : Int) := by omega
      have k1 : (k : Int) < (c : Int) := by omega
      clear hJs hbx
      gi_wp2
      refine ⟨fun h => (by cases h), hR.mono ?_⟩
      rintro e W3 (⟨rfl, hJ3, hk3⟩ | ⟨rfl, hJx3⟩)
      · have HJ3 := Lib.hid hJ3
        have HB3 := Lib.hid (HBx.out.trans hk3)
        have HK3 := Lib.hid hk3
        have s3 := HB3.out.2 _ hBs
        obtain ⟨tk, hin, hend⟩ := HKid.out k hlt
        have hpl := tk.lt
        have hS := size_in t (by omega) b o cap hcap hcm (plA t (p + 1) k) hpl W3 (HN.out.keepN HB3.out.1 hb) (HC.out.keepN HB3.out.1 hk0)
        rw [szE_ok tk] at hS
        have HS := Lib.hid hS
        have HPl : Hid (plA t (p + 1) (k + 1) = plA t (p + 1) k + szA t (plA t (p + 1) k)) := Lib.hid rfl
        have hle : plA t (p + 1) k + szA t (plA t (p + 1) k) ≤ 1000 := by omega
        generalize szA t (plA t (p + 1) k) = sz at *
        obtain ⟨pl, hpl'⟩ : ∃ pl, pl = plA t (p + 1) k := ⟨_, rfl⟩
        rw [← hpl'] at hin hend hpl HS HPl hle ⊢
        have j0 : (0 : Int) ≤ (pl : Int) := by omega
        have j1 : (0 : Int) ≤ (sz : Int) := by omega
        have j2 : (pl : Int) + (sz : Int) ≤ 1000 := by omega
        clear hS hJ3 hk3 hR hpl'
        gi_wp2
        refine wide_in HS.out ?_
        rintro e W4 ⟨rfl, hb4⟩
        have HB4 := Lib.hid hb4
        clear hb4
        gi_wp2
        go_roundw
        case rel => exact ⟨k + 1, by omega, by go_num, by rw [HPl.out]; go_num, HAb.out _ _ _ HJ3.out HB4.out, HB3.out.trans (KpT.of (Nat.le_trans hn HB3.out.1.size) HB4.out)⟩
        case measure => simp [RowKit.intOf]; omega
      · clear hR
        have HX := Lib.hid hJx3
        clear hJx3
        gi_wp2
        refine bodyPost_ret (results_none rfl _ _ _) rfl ?_
        exact ⟨⟨_, rfl⟩, .inr ⟨_, ⟨k + 1, hlt, rfl⟩, HX.out⟩⟩
    · obtain rfl : k = c := by omega
      clear hJs hbx
      gi_wp2
      go_end0
      exact ⟨⟨_, rfl⟩, .inl ⟨_, rfl, HJs.out⟩⟩

/-- What stands in the table's and the slice's blocks lies below; the iterator has its contract. -/
theorem below_stops (n : Nat) (Bp Bs n₀ : Nat) (t : List Nd) (hL : t.length ≤ 1000) (b o cap p : Nat) (hcap : t.length ≤ cap) (hcm : cap ≤ 9223372036854775807) (hb : b < n₀) (hT : TmA t p) (c : Nat) (hc : c = cnO (opA t p)) (w : World)
    (hBp : w.cell? ⟨Bp, 0, none⟩ = some (.int .i64 (p : Int))) (hBs : w.cell? ⟨Bs, 0, none⟩ = some (.slice (some ⟨b, o, none⟩) t.length cap)) (hn : n₀ ≤ w.heap.size) (hN : NdA w b o t) (C : KndW w) (hk0 : 0 < n₀) :
    SeqStopsK Fence.wide n Tryz.prog 140 #[.pointer (some ⟨Bp, 0, none⟩), .pointer (some ⟨Bs, 0, none⟩)] (encT t p c) (KpT n₀ Bs) (fun ys => ys = upF c c (Nat.le_refl _)) (fun pre => ∃ k h, pre = upF c k h) c w := fun l J Jx W hW hJ' hJx hY h0 => by
  have hB := hW.mono hn
  exact below_in _ n rfl l Bp Bs n₀ t hL b o cap p hcap hcm hb hT c hc J Jx hY (fun pre A B hs hb => abideT hJ' hs hb) W (keepT hW hBp) (keepT hW hBs) (Nat.le_trans hn hW.size) (hN.keepN hB hb) (C.keepN hB hk0) hk0 h0

end Go.Proofs.YtgeneoamngfomaaGreatDoor

namespace Go.Proofs.YtgeneoamngfomaaGreatDoor
open Go.RowKit Go.Lib Go.Shelf
set_option linter.unusedVariables false
attribute [local go_sem] Oper.semAt_some

/-- The places of the terms below, as numbers. -/
def plL (t : List Nd) (p k : Nat) : List Int := uptoT (fun i => ((plA t (p + 1) i : Nat) : Int)) k
theorem plL_len (t : List Nd) (p k : Nat) : (plL t p k).length = k := uptoT_length _ _
theorem plL_of (t : List Nd) (p c k : Nat) (h : k ≤ c) : (upF c k h).map (fun x => ((plA t (p + 1) x.1 : Nat) : Int)) = plL t p k := upF_map c (fun i => ((plA t (p + 1) i : Nat) : Int)) k h
theorem own_base {w : World} {a b : Nat} {v : Value} {l : List Int} (h : YtgeneoamngfomaaGreatDoor.Own w b v l) (hab : a ≤ b) : YtgeneoamngfomaaGreatDoor.Own w a v l := by
  obtain ⟨h1, h2⟩ := h
  refine ⟨h1, ?_⟩
  rcases h2 with h2 | ⟨g, cap, cur, rfl, hb, h3⟩
  · exact .inl h2
  · exact .inr ⟨g, cap, cur, rfl, Nat.le_trans hab hb, h3⟩
theorem infoIT : (Tryz.prog.info? 3).map (fun i => (i.zero, i.size, i.bytes)) = some (some (.int .i64 0), 1, 8) := by kernel_rfl
set_option maxRecDepth 100000 in
set_option maxHeartbeats 4000000 in
theorem below_ok (t : List Nd) (hL : t.length ≤ 1000) (b o cap p : Nat) (hcap : t.length ≤ cap) (hcm : cap ≤ 9223372036854775807) (hT : TmA t p) (w : World) (hN : NdA w b o t) (C : KndW w) :
    Calls Tryz.prog 79 #[.slice (some ⟨b, o, none⟩) t.length cap, .int .i64 p] w fun e w' => ∃ v, e = .returned (.tuple #[v, .int .i64 0]) ∧ Own w' w.heap.size v (plL t p (cnO (opA t p))) ∧ Below w.heap.size w w' := by
  have hp := hT.lt
  have hS := size_in t (by omega) b o cap hcap hcm p hp w hN C
  rw [szE_ok hT] at hS
  have HS := Lib.hid hS
  have HN := Lib.hid hN
  have HC := Lib.hid C
  have HT := Lib.hid hT
  have hcn := cn_le (opA t p)
  obtain ⟨c, hc⟩ : ∃ c, c = cnO (opA t p) := ⟨_, rfl⟩
  rw [← hc] at hcn ⊢
  have HMk := Lib.hid (fun w => below_make (some ⟨b, o, none⟩) t.length cap p w)
  obtain ⟨i0, hi, hz0, hz1, hz2⟩ := info_parts infoIT
  have hb0 : b < w.heap.size := ltT (hN p hp).c0
  have hk0 : 0 < w.heap.size := ltT (C.c0 0 (by omega))
  clear hS hN C hT
  obtain ⟨n, hn⟩ : ∃ n : Nat, 4 ≤ n := ⟨4, by omega⟩
  have h1 : 1 ≤ n := by omega
  refine callsIn_wide.1 (callsIn_of_wp_marks (n := n) Tryz.func79 rfl trivial ?_ rfl)
  simp only [Tryz.ntmps79, List.size_toArray, List.length_cons, List.length_nil, Nat.reduceAdd, Nat.reduceSub, Array.replicate_succ, Array.replicate_zero, List.push_toArray, List.append_toArray, List.nil_append, List.cons_append]
  gi_wp2
  refine wide_in2 HS.out ?_
  rintro e w1 ⟨rfl, hb1⟩
  have HB1 := Lib.hid hb1
  clear hb1
  gi_wp2
  refine wide_in2 (HMk.out _) ?_
  rintro e w2 ⟨rfl, rfl⟩
  gi_wp2
  have HB1' := HB1.out
  have hz := HB1'.size
  have bO := Boxed.new w1 83 (.slice none 0 0)
  obtain ⟨wa, hwa⟩ : ∃ wa, wa = (w1.alloc (.cells #[.slice none 0 0] 83)).alloc (.cells #[.slice (some ⟨b, o, none⟩) t.length cap] 22) := ⟨_, rfl⟩
  have za : wa.heap.size = w1.heap.size + 1 + 1 := by rw [hwa]; simp
  have cS : (wa.alloc (.cells #[.int .i64 (p : Int)] 3)).cell? ⟨w1.heap.size + 1, 0, none⟩ = some (.slice (some ⟨b, o, none⟩) t.length cap) := by
    refine newT ?_ _
    rw [hwa, World.cell?_alloc_at _ _ _ _ (by simp)]; rfl
  have cP : (wa.alloc (.cells #[.int .i64 (p : Int)] 3)).cell? ⟨w1.heap.size + 1 + 1, 0, none⟩ = some (.int .i64 (p : Int)) := by
    rw [World.cell?_alloc_at _ _ _ _ za.symm]; rfl
  have hB0 : Below w1.heap.size w1 (wa.alloc (.cells #[.int .i64 (p : Int)] 3)) := by
    rw [hwa]; exact (((Below.refl _ w1).alloc (Nat.le_refl _) _).alloc (by simp) _).alloc (by simp; omega) _
  have bW := ((bO.alloc (.cells #[.slice (some ⟨b, o, none⟩) t.length cap] 22)))
  rw [← hwa] at bW ⊢
  have bW' := bW.alloc (.cells #[.int .i64 (p : Int)] 3)
  have bS : Boxed wa (w1.heap.size + 1) 22 (.slice (some ⟨b, o, none⟩) t.length cap) := by
    have := Boxed.new (w1.alloc (.cells #[.slice none 0 0] 83)) 22 (.slice (some ⟨b, o, none⟩) t.length cap)
    rw [World.size_alloc, ← hwa] at this; exact this
  have bS := bS.alloc (.cells #[.int .i64 (p : Int)] 3)
  have zW : (wa.alloc (.cells #[.int .i64 (p : Int)] 3)).heap.size = w1.heap.size + 3 := by simp [za]
  obtain ⟨W0, hW0⟩ : ∃ W0, W0 = wa.alloc (.cells #[.int .i64 (p : Int)] 3) := ⟨_, rfl⟩
  rw [← hW0] at cS cP hB0 bW' bS zW ⊢
  have hBw : Below w.heap.size w W0 := onB HB1' hB0
  refine wpIn_rangeFunc_ownG rfl h1 (gf := 140) (lb := #[.pointer (some ⟨w1.heap.size + 1 + 1, 0, none⟩), .pointer (some ⟨w1.heap.size + 1, 0, none⟩)]) rfl trivial (enters_of Tryz.func140 (by kernel_rfl) rfl)
    (below_stops (n - 1) (w1.heap.size + 1 + 1) (w1.heap.size + 1) w1.heap.size t hL b o cap p hcap hcm (by omega) HT.out c hc W0 cP cS (by omega) (HN.out.keep hBw) (HC.out.keep hBw) (by omega)) KpT.trans (fun W l o o' h hl hc _ => KpT.put (s := W0.heap.size) (by omega) W l o o' h hl hc) (Below.refl _ _) (fun _ => rfl)
    (fun pre W => (∃ v, Boxed W w1.heap.size 83 v ∧ W.ownsRow w1.heap.size 3 1 v pre.length (pre.map fun x => Value.int .i64 ((plA t (p + 1) x.1 : Nat) : Int)) ∧ True) ∧ Boxed W (w1.heap.size + 1) 22 (.slice (some ⟨b, o, none⟩) t.length cap) ∧ Below w1.heap.size w1 W)
    (fun _ _ _ => False)
    (OwnFrom.and (Go.Own.from (holdsRow_own w1.heap.size w1.heap.size 83 3 1 (fun pre : List (Fin c) => pre.length) (fun pre => pre.map fun x => Value.int .i64 ((plA t (p + 1) x.1 : Nat) : Int)) (fun _ _ => True)) _) (OwnFrom.and (Go.Own.from (boxed_own (w1.heap.size + 1) 22 (fun _ : List (Fin c) => .slice (some ⟨b, o, none⟩) t.length cap)) _) (ownFrom_below (Nat.le_refl _) (by omega))))
    (fun _ _ _ _ _ hs _ _ => hs)
    ⟨⟨_, bW', World.ownsRow_nil _ _ _ _, trivial⟩, bS, hB0⟩
    (fun x => { tmps := #[.slice (some ⟨b, o, none⟩) t.length cap, .int .i64 p, undef, undef, .slice none 0 0, .int .i64 0, .int .i64 (szA t p), .int .i64 0, .pointer (some ⟨w1.heap.size, 0, none⟩), undef, .int .i64 ((plA t (p + 1) x.1 : Nat) : Int), .tuple #[.int .i64 (szA t p), .int .i64 0], .slice (some ⟨b, o, none⟩) t.length cap, .int .i64 p, .tuple #[.int .i64 (szA t p), .int .i64 0], .int .i64 (szA t p), .int .i64 0, .int .i64 0, .bool false, undef, .slice (some ⟨b, o, none⟩) t.length cap, .int .i64 p, .func (.func 140) #[] #[.pointer (some ⟨w1.heap.size + 1 + 1, 0, none⟩), .pointer (some ⟨w1.heap.size + 1, 0, none⟩)], .int .i64 (x.1 : Int), .int .i64 ((plA t (p + 1) x.1 : Nat) : Int), undef, undef, undef, undef, undef], defers := [] }) ?assign ?body ?done ?stop
  case assign =>
    intro l x W K hK
    dsimp only [encT]
    gi_wp2
    exact hK
  case body =>
    rintro l pre x W ⟨⟨v, hv, hrow, _⟩, hS, hB⟩ hlt
    have hc := hv.cell
    gi_wp2_with (gi_at_builtin; refine wpListIn_append_own _ rfl _ _ 83 rfl w1.heap.size 3 i0 (.int .i64 0) 1 8 Tryz.underlying83 hi hz0 hz1 hz2 rfl (by decide) _ _ _ rfl (hrow.alloc _) ⟨W.heap.size, 0, none⟩ 1 1 [.int .i64 ((plA t (p + 1) x.1 : Nat) : Int)] rfl rfl (cell_one_new _ _ _) (by simp [Value.oneCell']) (by unfold maxLen; omega) (by omega) (by have := hB.size; simp; omega) ?_; intro v' w1' hown' hgrow _; obtain ⟨g', cap', rfl⟩ := ownsRow_succ hown'; obtain ⟨hv1, hv2, hr2, hk2, hb2⟩ := hv.appended (by decide) hrow hB.size (Nat.le_refl _) hown' hgrow; have hS1 := (hS.alloc (.cells #[.int .i64 ((plA t (p + 1) x.1 : Nat) : Int)] 3)).kept hgrow (hS.not_row (by decide) hrow); have hc1 := hv1.cell; have hf1 := hv1.frozen)
    have hS2 := hS1.other (show w1.heap.size + 1 ≠ w1.heap.size by omega) (.slice (some ⟨g', 0, none⟩) (pre.length + 1) cap')
    refine ⟨hk2.from _, ⟨hb2, fun u hu => ?_⟩, ⟨⟨_, hv2, ?_, trivial⟩, hS2, hB.trans hb2⟩⟩
    · rw [hS.cell] at hu; cases hu
      exact hS2.cell
    · simpa using hr2
  case done =>
    rintro D ys W hD rfl ⟨⟨v, hv, hrow, _⟩, hS, hB⟩ hK
    have hc := hv.cell
    gi_wp2
    refine ⟨by simp, .inl ⟨_, _, rfl, run_takeDeferred hK, ?_⟩⟩
    rw [upF_length] at hrow
    have hrow' : YtgeneoamngfomaaGreatDoor.Own W w1.heap.size v (plL t p c) := by
      unfold YtgeneoamngfomaaGreatDoor.Own
      rw [plL_len, ← plL_of t p c c (Nat.le_refl _), List.map_map]; exact hrow
    exact ⟨_, results_tmp2 rfl _ _ _, v, rfl, own_base (ownsRow_putObj hrow' _ hK rfl) hz, onB HB1' (hB.trans (belowK_b (w := w1) (Nat.le_refl _) W D _ _ (by omega) hK rfl rfl))⟩
  case stop =>
    rintro D c pre W _ _ h _
    exact h.elim

end Go.Proofs.YtgeneoamngfomaaGreatDoor

namespace Go.Proofs.YtgeneoamngfomaaGreatDoor
open Go.RowKit Go.Lib Go.Shelf
set_option linter.unusedVariables false
attribute [local go_sem] Oper.semAt_some

/-- The greatest of a row of numbers; 0 of none. -/
def mxL (l : List Nat) : Nat := l.foldl max 0
theorem mxL_snoc (l : List Nat) (x : Nat) : mxL (l ++ [x]) = max (mxL l) x := by simp [mxL]
theorem mxL_upto (g : Nat → Nat) : ∀ k, mxL (uptoT g k) = mxN g k
  | 0 => rfl
  | k + 1 => by rw [uptoT_succ, mxL_snoc, mxL_upto g k, mxN]
theorem dpF_bd {t : List Nd} : ∀ f p, dpF t f p ≤ f
  | 0, _ => Nat.le_refl _
  | f + 1, p => by
    rw [dpF]
    have := mxN_le (g := fun i => dpF t f (plA t (p + 1) i)) (b := f) (cnO (opA t p)) (fun i _ => dpF_bd f _)
    omega

theorem undrewT {w w' : World} (h : Below w.drew.heap.size w.drew w') : Below w.heap.size w w' := ⟨h.os, h.tape, h.output, h.size, h.block⟩
theorem othersT {W W' : World} (h : Below W.heap.size W W') : KeepsOthers W W' := KeepsOthers.of_grownBy (grownT h) (fun j o e => by cases e)
theorem KpT.set {n₀ Bs B : Nat} {W : World} (h1 : n₀ ≤ B) (h2 : B ≠ Bs) (v : Value) : KpT n₀ Bs W (W.setCell ⟨B, 0, none⟩ v) :=
  ⟨(Below.refl n₀ W).setCell (p := ⟨B, 0, none⟩) h1 v, fun u hu => (cell_other (fun e => h2 (congrArg Addr.block e))).trans hu⟩
theorem boxB {W W' : World} {B : Nat} {t : TypeId} {v : Value} (hb : Below W.heap.size W W') (h : Boxed W B t v) : Boxed W' B t v := (hb.block B h.lt).trans h
set_option maxRecDepth 100000 in
set_option maxHeartbeats 8000000 in
theorem depth_step (t : List Nd) (hL : t.length ≤ 1000) (b o cap : Nat) (hcap : t.length ≤ cap) (hcm : cap ≤ 9223372036854775807) (f : Nat) (hf : f ≤ 1000)
    (ih : ∀ p, TmA t p → szA t p ≤ f → ∀ w, NdA w b o t → KndW w → Calls Tryz.prog 114 #[.slice (some ⟨b, o, none⟩) t.length cap, .int .i64 p] w fun e w' => e = .returned (.int .i64 (dpF t f p)) ∧ Below w.heap.size w w')
    (p : Nat) (hT : TmA t p) (hsz : szA t p ≤ f + 1) (w : World) (hN : NdA w b o t) (C : KndW w) :
    Calls Tryz.prog 114 #[.slice (some ⟨b, o, none⟩) t.length cap, .int .i64 p] w fun e w' => e = .returned (.int .i64 (dpF t (f + 1) p)) ∧ Below w.heap.size w w' := by
  have hp := hT.lt
  have HN := Lib.hid hN
  have HC := Lib.hid C
  have HT := Lib.hid hT
  have hcn := cn_le (opA t p)
  obtain ⟨c, hc⟩ : ∃ c, c = cnO (opA t p) := ⟨_, rfl⟩
  have HR : Hid (dpF t (f + 1) p = mxN (fun i => dpF t f (plA t (p + 1) i)) c + 1) := Lib.hid (by rw [dpF, hc])
  rw [← hc] at hcn
  have HKid : Hid (∀ x : Fin c, ∀ w, NdA w b o t → KndW w → Calls Tryz.prog 114 #[.slice (some ⟨b, o, none⟩) t.length cap, .int .i64 ((plA t (p + 1) x.1 : Nat) : Int)] w fun e w' => e = .returned (.int .i64 (dpF t f (plA t (p + 1) x.1))) ∧ Below w.heap.size w w') := Lib.hid (fun x w hN C => by
    obtain ⟨k1, k2, k3⟩ := hT.kid (i := x.1) (by rw [← hc]; exact x.2)
    exact ih _ k1 (by omega) w hN C)
  have HMk := Lib.hid (fun w => below_make (some ⟨b, o, none⟩) t.length cap p w)
  have hb0 : b < w.heap.size := ltT (hN p hp).c0
  have hk0 : 0 < w.heap.size := ltT (C.c0 0 (by omega))
  obtain ⟨r, hr⟩ : ∃ r, r = dpF t (f + 1) p := ⟨_, rfl⟩
  rw [← hr] at HR ⊢
  clear hN C hT ih hsz hr
  obtain ⟨n, hn⟩ : ∃ n : Nat, 4 ≤ n := ⟨4, by omega⟩
  have h1 : 1 ≤ n := by omega
  refine callsIn_wide.1 (callsIn_of_wp_marks (n := n) Tryz.func114 rfl trivial ?_ rfl)
  simp only [Tryz.ntmps114, List.size_toArray, List.length_cons, List.length_nil, Nat.reduceAdd, Nat.reduceSub, Array.replicate_succ, Array.replicate_zero, List.push_toArray, List.append_toArray, List.nil_append, List.cons_append]
  gi_wp2
  refine wide_in2 (HMk.out _) ?_
  rintro e w2 ⟨rfl, rfl⟩
  gi_wp2
  obtain ⟨sv, hsv⟩ : ∃ sv, sv = Value.slice (some ⟨b, o, none⟩) t.length cap := ⟨_, rfl⟩
  have HS := Lib.hid hsv
  obtain ⟨wa, hwa⟩ : ∃ wa, wa = w.alloc (.cells #[sv] 22) := ⟨_, rfl⟩
  obtain ⟨wb, hwb⟩ : ∃ wb, wb = wa.alloc (.cells #[.int .i64 0] 3) := ⟨_, rfl⟩
  obtain ⟨wc, hwc⟩ : ∃ wc, wc = wb.alloc (.cells #[sv] 22) := ⟨_, rfl⟩
  obtain ⟨W0, hW0⟩ : ∃ W0, W0 = wc.alloc (.cells #[.int .i64 (p : Int)] 3) := ⟨_, rfl⟩
  rw [← hsv, ← hwa, ← hwb, ← hwc, ← hW0]
  have za : wa.heap.size = w.heap.size + 1 := by rw [hwa]; simp
  have zb : wb.heap.size = w.heap.size + 2 := by rw [hwb]; simp [za]
  have zc : wc.heap.size = w.heap.size + 3 := by rw [hwc]; simp [zb]
  have zW : W0.heap.size = w.heap.size + 4 := by rw [hW0]; simp [zc]
  have bT : Boxed W0 w.heap.size 22 sv := by
    have := Boxed.new w 22 sv
    rw [← hwa] at this
    rw [hW0, hwc, hwb]
    exact ((this.alloc _).alloc _).alloc _
  have bD : Boxed W0 (w.heap.size + 1) 3 (.int .i64 0) := by
    have := Boxed.new wa 3 (.int .i64 0)
    rw [← hwb, za] at this
    rw [hW0, hwc]
    exact (this.alloc _).alloc _
  have bS : Boxed W0 (w.heap.size + 2) 22 sv := by
    have := Boxed.new wb 22 sv
    rw [← hwc, zb] at this
    rw [hW0]
    exact this.alloc _
  have cP : W0.cell? ⟨w.heap.size + 3, 0, none⟩ = some (.int .i64 (p : Int)) := by
    rw [hW0, World.cell?_alloc_at _ _ _ _ zc.symm]; rfl
  have hBw : Below w.heap.size w W0 := by
    rw [hW0, hwc, hwb, hwa]; exact ((((Below.refl _ w).alloc (Nat.le_refl _) _).alloc (by simp) _).alloc (by simp; omega) _).alloc (by simp; omega) _
  clear hwa hwb hwc hW0 hsv
  refine wpIn_rangeFunc_ownG rfl h1 (gf := 140) (lb := #[.pointer (some ⟨w.heap.size + 1 + 1 + 1, 0, none⟩), .pointer (some ⟨w.heap.size + 1 + 1, 0, none⟩)]) rfl trivial (enters_of Tryz.func140 (by kernel_rfl) rfl)
    (below_stops (n - 1) (w.heap.size + 1 + 1 + 1) (w.heap.size + 1 + 1) w.heap.size t hL b o cap p hcap hcm hb0 HT.out c hc W0 cP (by rw [← HS.out]; exact bS.cell) (by omega) (HN.out.keep hBw) (HC.out.keep hBw) hk0) KpT.trans (fun W l o o' h hl hc _ => KpT.put (s := W0.heap.size) (by omega) W l o o' h hl hc) (Below.refl _ _) (fun _ => rfl)
    (fun pre W => Boxed W (w.heap.size + 1) 3 (.int .i64 (mxL (pre.map fun x => dpF t f (plA t (p + 1) x.1)) : Nat)) ∧ Boxed W w.heap.size 22 sv ∧ Boxed W (w.heap.size + 2) 22 sv ∧ Below w.heap.size w W)
    (fun _ _ _ => False)
    (OwnFrom.and (Go.Own.from (boxed_own (w.heap.size + 1) 3 (fun pre : List (Fin c) => .int .i64 (mxL (pre.map fun x => dpF t f (plA t (p + 1) x.1)) : Nat))) _) (OwnFrom.and (Go.Own.from (boxed_own w.heap.size 22 (fun _ : List (Fin c) => sv)) _) (OwnFrom.and (Go.Own.from (boxed_own (w.heap.size + 2) 22 (fun _ : List (Fin c) => sv)) _) (ownFrom_below (Nat.le_refl _) (by omega)))))
    (fun _ _ _ _ _ hs _ _ => hs)
    ⟨bD, bT, bS, hBw⟩
    (fun x => { tmps := #[sv, .int .i64 p, .pointer (some ⟨w.heap.size, 0, none⟩), undef, .int .i64 0, .pointer (some ⟨w.heap.size + 1, 0, none⟩), undef, .int .i64 ((plA t (p + 1) x.1 : Nat) : Int), sv, .int .i64 p, .func (.func 140) #[] #[.pointer (some ⟨w.heap.size + 1 + 1 + 1, 0, none⟩), .pointer (some ⟨w.heap.size + 1 + 1, 0, none⟩)], .int .i64 (x.1 : Int), .int .i64 ((plA t (p + 1) x.1 : Nat) : Int), undef, undef, undef, undef, undef, undef, undef], defers := [] }) ?assign ?body ?done ?stop
  case assign =>
    intro l x W K hK
    dsimp only [encT]
    gi_wp2
    exact hK
  case body =>
    rintro l pre x W ⟨hD, hTb, hSb, hB⟩ hlt
    have hd : 1 ≤ n - 1 - 1 := by omega
    have hmx : Tryz.prog.follows .mixedOrders = true := by kernel_rfl
    have HCall : Hid (∀ W', Below w.heap.size w W' → Calls Tryz.prog 114 #[sv, .int .i64 ((plA t (p + 1) x.1 : Nat) : Int)] W' fun e w' => e = .returned (.int .i64 (dpF t f (plA t (p + 1) x.1))) ∧ Below W'.heap.size W' w') := Lib.hid (fun W' hb => by
      rw [HS.out]
      exact HKid.out x W' (HN.out.keep hb) (HC.out.keep hb))
    have hdb := dpF_bd (t := t) f (plA t (p + 1) x.1)
    have cD := hD.cell
    have fD := hD.frozen
    have cT := hTb.cell
    have HI := Lib.hid (And.intro hD (And.intro hTb (And.intro hSb hB)))
    obtain ⟨d, hdd⟩ : ∃ d, d = dpF t f (plA t (p + 1) x.1) := ⟨_, rfl⟩
    rw [← hdd] at HCall hdb
    have HDD := Lib.hid hdd
    obtain ⟨m, hm⟩ : ∃ m, m = mxL (pre.map fun x => dpF t f (plA t (p + 1) x.1)) := ⟨_, rfl⟩
    rw [← hm] at cD HI
    have HM := Lib.hid hm
    clear hdd hm hD hTb hSb hB
    gi_wp2
    gi_region_with_o (refine ⟨trivial, ?_⟩; gi_at_call 114; refine (CallsIn.inRound l (callsIn_wide.2 (HCall.out _ (by first | exact HI.out.2.2.2 | exact Below.drew HI.out.2.2.2)))).mono ?_; rintro e w' ⟨rfl, hbx⟩; have bD2 := boxB hbx (show Boxed _ (w.heap.size + 1) _ _ from HI.out.1); have cD2 := bD2.cell; have fD2 := bD2.frozen)
    all_goals
      have hbw : Below W.heap.size W w' := by first | exact undrewT hbx | exact hbx
      have hI := HI.out
      have hn0 : w.heap.size ≤ W.heap.size := hI.2.2.2.size
      refine ⟨((othersT hbw).trans (KeepsOthers.setCell _ _ _)).from _, (KpT.of hn0 hbw).trans (KpT.set (by omega) (by omega) _), ?_, (boxB hbw hI.2.1).other (by omega) _, (boxB hbw hI.2.2.1).other (by omega) _, (hI.2.2.2.trans (hbw.mono hn0)).setCell (p := ⟨w.heap.size + 1, 0, none⟩) (Nat.le_succ _) _⟩
      have := bD2.set (.int .i64 (max (m : Int) (d : Int)))
      rw [List.map_append, List.map_cons, List.map_nil, mxL_snoc, ← HM.out, ← HDD.out]
      rw [show ((max m d : Nat) : Int) = max (m : Int) (d : Int) by omega]
      exact this
  case done =>
    rintro D ys W hD rfl ⟨hD', hTb, hSb, hB⟩ hK
    have hc := hD'.cell
    have hmf := mxN_le (g := fun i => dpF t f (plA t (p + 1) i)) (b := f) c (fun i _ => dpF_bd f _)
    rw [upF_map c (fun i => dpF t f (plA t (p + 1) i)), mxL_upto] at hc
    have HRR := HR.out
    obtain ⟨m, hm⟩ : ∃ m, m = mxN (fun i => dpF t f (plA t (p + 1) i)) c := ⟨_, rfl⟩
    rw [← hm] at hc hmf HRR
    have q0 : (0 : Int) ≤ (m : Int) := by omega
    have q1 : (m : Int) ≤ 1000 := by omega
    clear hm hD'
    gi_wp2
    refine ⟨by simp, .inl ⟨_, _, rfl, run_takeDeferred hK, ?_⟩⟩
    exact ⟨_, results_tmp rfl _ _ _, by rw [HRR]; rfl, hB.trans (belowK_b (w := w) (Nat.le_refl _) W D _ _ (by omega) hK rfl rfl)⟩
  case stop =>
    rintro D c pre W _ _ h _
    exact h.elim

theorem depth_any (t : List Nd) (hL : t.length ≤ 1000) (b o cap : Nat) (hcap : t.length ≤ cap) (hcm : cap ≤ 9223372036854775807) : ∀ f, f ≤ 1001 → ∀ p, TmA t p → szA t p ≤ f → ∀ w, NdA w b o t → KndW w →
    Calls Tryz.prog 114 #[.slice (some ⟨b, o, none⟩) t.length cap, .int .i64 p] w fun e w' => e = .returned (.int .i64 (dpF t f p)) ∧ Below w.heap.size w w'
  | 0, _, p, hT, hf, _, _, _ => absurd hT.bd.1 (by omega)
  | f + 1, h, p, hT, hf, w, hN, C => depth_step t hL b o cap hcap hcm f (by omega) (fun p hT hf w hN C => depth_any t hL b o cap hcap hcm f (by omega) p hT hf w hN C) p hT hf w hN C
theorem depth_ok (t : List Nd) (hL : t.length ≤ 1000) (b o cap : Nat) (hcap : t.length ≤ cap) (hcm : cap ≤ 9223372036854775807) (p : Nat) (hT : TmA t p) (w : World) (hN : NdA w b o t) (C : KndW w) :
    Calls Tryz.prog 114 #[.slice (some ⟨b, o, none⟩) t.length cap, .int .i64 p] w fun e w' => e = .returned (.int .i64 (dpA t p)) ∧ Below w.heap.size w w' := by
  have := depth_any t hL b o cap hcap hcm (szA t p) (by have := hT.bd; omega) p hT (Nat.le_refl _) w hN C
  exact this

end Go.Proofs.YtgeneoamngfomaaGreatDoor

namespace Go.Proofs.YtgeneoamngfomaaGreatDoor
open Go
set_option linter.unusedVariables false

def noDeferB (ops : Array Oper) : Bool := ops.all fun o => match o.op with
  | .defer _ => false
  | _ => true
theorem noDefer_of {ops : Array Oper} (h : noDeferB ops = true) (i : Nat) (o : Oper) (ho : ops[i]? = some o) : ∀ c, o.op ≠ .defer c := fun c e => by
  have := Array.all_eq_true'.1 h o (Array.mem_of_getElem? ho)
  rw [e] at this; cases this

theorem upon_round {l n : Nat} {P : Program} {o : Oper} {a : Act} {next : Act → World → Prop} {Q : Exit → Act → World → Prop} (r : Result Next) (h : o.upon P a next Q r) : o.uponIn (Fence.wide.inRound l) n P a next Q r := by
  cases r with
  | ok x w' =>
    cases x
    case enter f args => exact ⟨fun h => (by cases h), CallsIn.inRound l (callsIn_wide.2 h)⟩
    case row row args => exact ⟨fun h => (by cases h), fun c cs _ => by
      obtain ⟨v, w2, r, s⟩ := (h : Rows P row args w' _) c cs
      exact ⟨v, w2, r, stepsIn_wide.2 s⟩⟩
    all_goals first | exact h | exact (h : False).elim
  | halt x w' =>
    cases x <;> first | exact h | exact (h : False).elim
theorem any_round {l n : Nat} {P : Program} {md : Region.Mode} {ops : Array Oper} {Q : Exit → Act → World → Prop} (hnd : noDeferB ops = true) (hL : ¬ LetsOut Q) : ∀ (fuel : Nat) (listed : Array Bool) (a : Act) (w : World), wpAny P md ops Q fuel listed a w → wpAnyIn (Fence.wide.inRound l) n P md ops Q fuel listed a w
  | 0, _, _, _, h => h
  | fuel + 1, listed, a, w, h => ⟨h.1, fun i hi => by
    have h2 := h.2 i hi
    have ih := fun a w => any_round (l := l) (n := n) (P := P) (md := md) hnd hL fuel (listed.setIfInBounds i true) a w
    unfold wpOp at h2
    unfold wpOpIn
    cases ho : ops[i]? with
    | none => simp only [ho] at h2 ⊢; exact ih _ _ h2
    | some o =>
      simp only [ho] at h2 ⊢
      split
      · rename_i hw
        rw [if_pos hw] at h2
        rcases h2 with h2 | ⟨_, hx⟩
        · refine Oper.wpIn_mono (fun a w h => ih a w h) ⟨fun _ _ => trivial, ?_⟩
          rw [show (Fence.wide.inRound l).round = some l from rfl, Oper.semAt_some l _ _ (noDefer_of hnd i o ho)]
          exact upon_round _ h2
        · exact absurd hx hL
      · rename_i hw
        rw [if_neg hw] at h2
        exact ⟨fun _ _ => trivial, ih _ _ h2⟩⟩

theorem round_held {l n id : Nat} {P : Program} {ops : Array Oper} {Q : Exit → Act → World → Prop} {a : Act} {w : World} (S : World → Prop) (hm : P.follows .mixedOrders = true) (hnd : noDeferB ops = true) (hL : ¬ LetsOut Q) (hS : S w.drew)
    (h : S w.drew → wpAnyH P .any ops (NoPanic Q) S ops.size (Array.replicate ops.size false) a w.drew) : (Code.region id ops true).wpIn (Fence.wide.inRound l) n P Q a w :=
  wpIn_mono (Q := NoPanic Q) (wpIn_region_any hm (any_round (P := P) (md := .any) (Q := NoPanic Q) hnd (fun ⟨a, w, h⟩ => hL ⟨a, w, h⟩) _ _ _ _ (wpAny_of_held _ _ _ _ (h hS)))) NoPanic.imp

end Go.Proofs.YtgeneoamngfomaaGreatDoor

namespace Go.Proofs.YtgeneoamngfomaaGreatDoor
open Go.RowKit Go.Lib Go.Shelf
set_option linter.unusedVariables false
attribute [local go_sem] Oper.semAt_some

/-- Marks of loops over iterators, among the deferred calls. -/
def marks (Ds : List Nat) : List Deferred := Ds.map fun D => { target := .collected D, args := #[] }
/-- A frame on its way out takes up all marks: no cell turns. -/
theorem leaves_marks {F : Fence} {n : Nat} {P : Program} {fn : Func} {tmps : Array Value} {R : Ending → World → Prop} {B : Nat} : ∀ (Ds : List Nat) (W : World), Ds.Nodup → (∀ D ∈ Ds, B ≤ D ∧ W.heap[D]? = some (.deferred (some []))) →
    (∀ W', Below B W W' → (∀ a v, W.cell? a = some v → W'.cell? a = some v) → ∃ v, (results fn tmps).run P W' = .ok v W' ∧ R (.returned v) W') → LeavesInM F n P fn tmps R (marks Ds) .returning W
  | [], W, _, _, h => h W (Below.refl _ _) (fun _ _ h => h)
  | D :: Ds, W, hnd, hK, h => by
    obtain ⟨hB, hD⟩ := hK D (by simp)
    obtain ⟨hn1, hn2⟩ := List.nodup_cons.1 hnd
    refine ⟨by simp, .inl ⟨D, _, rfl, run_takeDeferred hD, ?_⟩⟩
    have hg := grownBy_putObj' W D (.deferred none)
    refine leaves_marks Ds _ hn2 (fun D' hD' => ⟨(hK D' (by simp [hD'])).1, ?_⟩) (fun W' hb hc => h W' (Below.trans ?_ hb) (fun a v hv => hc a v (cell_kept hv hg (fun r e => by cases e; exact ⟨_, hD, rfl⟩))))
    · rw [World.putObj_heap_other (fun e => hn1 (by subst e; exact hD'))]
      exact (hK D' (by simp [hD'])).2
    · exact (Below.refl B W).grown hg (by have := (Array.getElem?_eq_some_iff.1 hD).1; omega) (fun k e => by cases e; exact hB)

theorem memF (c : Nat) : ∀ (k : Nat) (h : k ≤ c) (i : Nat) (hi : i < k), (⟨i, Nat.lt_of_lt_of_le hi h⟩ : Fin c) ∈ upF c k h
  | k + 1, h, i, hi => by
    rw [upF]
    by_cases e : i = k
    · subst e; simp
    · exact List.mem_append_left _ (memF c k _ i (by omega))
/-- Is what stands below a node as its op has it? -/
def SrtA (t : List Nd) (p : Nat) : Prop := ∀ i, i < cnO (opA t p) → mkO (opA t (plA t (p + 1) i)) = kdC (ixO (opA t p)) i

set_option maxRecDepth 100000 in
set_option maxHeartbeats 8000000 in
theorem sorted_main (t : List Nd) (hL : t.length ≤ 1000) (b o cap : Nat) (hcap : t.length ≤ cap) (hcm : cap ≤ 9223372036854775807) (hT : ∀ p, p < t.length → TmA t p) (w : World) (hb0 : b < w.heap.size) (hN : NdA w b o t) (C : KndW w) :
    Calls Tryz.prog 113 #[.slice (some ⟨b, o, none⟩) t.length cap] w fun e w' => (∃ r, e = .returned (.bool r) ∧ (r = true ↔ ∀ p, p < t.length → SrtA t p)) ∧ Below w.heap.size w w' := by
  have HN := Lib.hid hN
  have HC := Lib.hid C
  have HT := Lib.hid hT
  have HMk := Lib.hid (fun p w => below_make (some ⟨b, o, none⟩) t.length cap p w)
  have hk0 : 0 < w.heap.size := ltT (C.c0 0 (by omega))
  clear hN C hT
  obtain ⟨n, hn⟩ : ∃ n : Nat, 4 ≤ n := ⟨4, by omega⟩
  have h1 : 1 ≤ n := by omega
  refine callsIn_wide.1 (callsIn_of_wp_marks (n := n) Tryz.func113 rfl trivial ?_ rfl)
  simp only [Tryz.ntmps113, List.size_toArray, List.length_cons, List.length_nil, Nat.reduceAdd, Nat.reduceSub, Array.replicate_succ, Array.replicate_zero, List.push_toArray, List.append_toArray, List.nil_append, List.cons_append]
  gi_wp2
  obtain ⟨wa, hwa⟩ : ∃ wa, wa = w.alloc (.cells #[(.slice (some ⟨b, o, none⟩) t.length cap)] 22) := ⟨_, rfl⟩
  obtain ⟨wb, hwb⟩ : ∃ wb, wb = wa.alloc (.cells #[.bool false] 4) := ⟨_, rfl⟩
  rw [← hwa, ← hwb]
  have za : wa.heap.size = w.heap.size + 1 := by rw [hwa]; simp
  have bT : Boxed wb w.heap.size 22 (.slice (some ⟨b, o, none⟩) t.length cap) := by
    have := Boxed.new w 22 (.slice (some ⟨b, o, none⟩) t.length cap)
    rw [← hwa] at this
    rw [hwb]; exact this.alloc _
  have bR : Boxed wb (w.heap.size + 1) 4 (.bool false) := by
    have := Boxed.new wa 4 (.bool false)
    rw [← hwb, za] at this; exact this
  have hBw : Below w.heap.size w wb := by
    rw [hwb, hwa]; exact ((Below.refl _ w).alloc (Nat.le_refl _) _).alloc (by simp) _
  clear hwa hwb za
  refine wpIn_loop (fun a' wr => ∃ (k : Nat) (Ds : List Nat) (u3 u4 u5 u6 u7 u11 u12 u13 u14 u15 u16 u17 u18 u19 u20 u21 u22 u23 u24 u25 u26 u27 u28 u29 u30 u31 u32 u33 u34 : Value), (k ≤ t.length ∧ (∀ p, p < k → SrtA t p) ∧ Ds.Nodup ∧ (∀ D ∈ Ds, w.heap.size ≤ D ∧ wr.heap[D]? = some (.deferred (some []))) ∧ Boxed wr w.heap.size 22 (.slice (some ⟨b, o, none⟩) t.length cap) ∧ Boxed wr (w.heap.size + 1) 4 (.bool false) ∧ Below w.heap.size w wr) ∧ a' = { tmps := #[(.slice (some ⟨b, o, none⟩) t.length cap), .pointer (some ⟨w.heap.size, 0, none⟩), .pointer (some ⟨w.heap.size + 1, 0, none⟩), u3, u4, u5, u6, u7, (.slice (some ⟨b, o, none⟩) t.length cap), .int .i64 (t.length : Int), .int .i64 (k : Int), u11, u12, u13, u14, u15, u16, u17, u18, u19, u20, u21, u22, u23, u24, u25, u26, u27, u28, u29, u30, u31, u32, u33, u34], defers := marks Ds }) (fun a' _ => t.length - (RowKit.intOf (a'.tmps.getD 10 undef)).toNat) ?atStart ?round
  case atStart => exact ⟨0, [], _, _, _, _, _, _, _, _, _, _, _, _, _, _, _, _, _, _, _, _, _, _, _, _, _, _, _, _, _, ⟨Nat.zero_le _, fun p hp => absurd hp (Nat.not_lt_zero p), List.nodup_nil, (fun D hD => absurd hD List.not_mem_nil), bT, bR, hBw⟩, rfl⟩
  case round =>
    rintro _ wr ⟨k, Ds, u3, u4, u5, u6, u7, u11, u12, u13, u14, u15, u16, u17, u18, u19, u20, u21, u22, u23, u24, u25, u26, u27, u28, u29, u30, u31, u32, u33, u34, ⟨hk, hsr, hnd, hDs, hTb, hRb, hB⟩, rfl⟩
    have HI := Lib.hid (And.intro hsr (And.intro hnd (And.intro hDs (And.intro hTb (And.intro hRb hB)))))
    have cT := hTb.cell
    by_cases hlt : k < t.length
    · have i0 : (0 : Int) ≤ (k : Int) := by omega
      have i1 : (k : Int) < (t.length : Int) := by omega
      have hnc := (HN.out.keep hB) k hlt
      obtain ⟨nd, hnd'⟩ : ∃ nd, nd = t.getD k default := ⟨_, rfl⟩
      rw [← hnd'] at hnc
      have HOp : Hid (opA t k = nd.op) := Lib.hid (by rw [hnd']; rfl)
      obtain ⟨e0, e1, e2, e3, e4⟩ := hnc
      have HK := Lib.hid (fun w' (hb : Below wr.heap.size wr w') => kindof_any nd.op w' ((HC.out.keep hB).keep hb))
      have HKk : Hid (∃ kk, kk = ixO nd.op) := Lib.hid ⟨_, rfl⟩
      obtain ⟨m0, m1, m2, m3, m4, m5, m6, m7, hR, hm0⟩ := rowC_is0 (ixO nd.op)
      rw [hR] at HK
      have HRw := Lib.hid hR
      clear hsr hnd hDs hTb hRb hB hR hm0 hnd'
      gi_wp2
      refine wide_in2 (HK.out _ (newB _ _)) ?_
      rintro e w1 ⟨rfl, hb1⟩
      have hb1' := onB (newB wr _) hb1
      have HB1 := Lib.hid hb1'
      have cT1 := newT (keepT hb1' cT)
      clear hb1 cT
      gi_wp2
      obtain ⟨wk, hwk⟩ : ∃ wk, wk = w1.alloc (.cells #[.int .i64 m0, .int .i64 m1, .int .i64 m2, .int .i64 m3, .int .i64 m4, .int .i64 m5, .int .i64 m6, .bool m7] 216) := ⟨_, rfl⟩
      rw [← hwk]
      have HWk := Lib.hid hwk
      have zk : wk.heap.size = w1.heap.size + 1 := by rw [hwk]; simp
      clear hwk
      refine wide_in2 (HMk.out _ _) ?_
      rintro e w2 ⟨rfl, rfl⟩
      gi_wp2
      have hI := HI.out
      have hBr := hI.2.2.2.2.2
      have zr := HB1.out.size
      have hwk := HWk.out
      have cS : ((wk.alloc (.cells #[.slice (some ⟨b, o, none⟩) t.length cap] 22)).alloc (.cells #[.int .i64 (k : Int)] 3)).cell? ⟨w1.heap.size + 1, 0, none⟩ = some (.slice (some ⟨b, o, none⟩) t.length cap) := by
        refine newT ?_ _
        rw [← zk, World.cell?_alloc_at _ _ _ _ rfl]; rfl
      have cP : ((wk.alloc (.cells #[.slice (some ⟨b, o, none⟩) t.length cap] 22)).alloc (.cells #[.int .i64 (k : Int)] 3)).cell? ⟨w1.heap.size + 1 + 1, 0, none⟩ = some (.int .i64 (k : Int)) := by
        rw [World.cell?_alloc_at _ _ _ _ (by simp [zk])]; rfl
      have hB0 : Below wk.heap.size wk ((wk.alloc (.cells #[.slice (some ⟨b, o, none⟩) t.length cap] 22)).alloc (.cells #[.int .i64 (k : Int)] 3)) := ((Below.refl _ wk).alloc (Nat.le_refl _) _).alloc (by simp) _
      have zW : ((wk.alloc (.cells #[.slice (some ⟨b, o, none⟩) t.length cap] 22)).alloc (.cells #[.int .i64 (k : Int)] 3)).heap.size = w1.heap.size + 3 := by simp [zk]
      obtain ⟨W0, hW0⟩ : ∃ W0, W0 = (wk.alloc (.cells #[.slice (some ⟨b, o, none⟩) t.length cap] 22)).alloc (.cells #[.int .i64 (k : Int)] 3) := ⟨_, rfl⟩
      rw [← hW0] at cS cP hB0 zW ⊢
      have hB1k : Below w1.heap.size w1 wk := by rw [hwk]; exact newB _ _
      have hBr0 : Below wr.heap.size wr W0 := onB HB1.out (onB hB1k hB0)
      have hBw0 : Below w.heap.size w W0 := onB hBr hBr0
      obtain ⟨c, hc⟩ : ∃ c, c = cnO (opA t k) := ⟨_, rfl⟩
      have hcn := cn_le (opA t k)
      rw [← hc] at hcn
      have tk := HT.out k hlt
      have hKin : ∀ x : Fin c, plA t (k + 1) x.1 < t.length := fun x => ((tk.kid (i := x.1) (by rw [← hc]; exact x.2)).1).lt
      have HF : Hid (∀ (x : Fin c) W', Below W0.heap.size W0 W' → W'.cell? ⟨w.heap.size, 0, none⟩ = some (.slice (some ⟨b, o, none⟩) t.length cap) ∧ W'.cell? ⟨b, o + plA t (k + 1) x.1 * 5, none⟩ = some (.int .i64 (opA t (plA t (k + 1) x.1))) ∧ W'.cell? ⟨w1.heap.size, 1 + x.1, none⟩ = some (.int .i64 (kdC (ixO (opA t k)) x.1)) ∧ KndW W') := Lib.hid (fun x W' hb => by
        refine ⟨?_, ?_, ?_, ((HC.out.keep hBw0).keep hb)⟩
        · exact keepT hb (keepT hB0 (by rw [hwk]; exact cT1 _))
        · exact ((HN.out.keep hBw0).keep hb _ (hKin x)).c0
        · refine keepT hb (keepT hB0 ?_)
          rw [hwk, ← HRw.out, World.cell?_alloc_at _ _ _ _ rfl, ← HOp.out]
          have h4 : x.1 < 4 := by have := x.2; omega
          generalize x.1 = j at *
          match j, h4 with
          | 0, _ => rfl
          | 1, _ => rfl
          | 2, _ => rfl
          | 3, _ => rfl)
      have hDlt : ∀ D ∈ Ds, w.heap.size ≤ D ∧ D < wr.heap.size ∧ W0.heap[D]? = some (.deferred (some [])) := fun D hD => by
        obtain ⟨h1, h2⟩ := hI.2.2.1 D hD
        have h3 := (Array.getElem?_eq_some_iff.1 h2).1
        exact ⟨h1, h3, (hBr0.block D h3).trans h2⟩
      have HDlt := Lib.hid hDlt
      have bR0 : Boxed W0 (w.heap.size + 1) 4 (.bool false) := boxB hBr0 hI.2.2.2.2.1
      have bT0 : Boxed W0 w.heap.size 22 (.slice (some ⟨b, o, none⟩) t.length cap) := boxB hBr0 hI.2.2.2.1
      have hzz := hBr0.size
      have hzw := hBr.size
      have hRlt := hI.2.2.2.2.1.lt
      clear hwk hW0 hDlt hI cT1 hb1'
      refine wpIn_rangeFunc_ownG rfl h1 (gf := 140) (lb := #[.pointer (some ⟨w1.heap.size + 1 + 1, 0, none⟩), .pointer (some ⟨w1.heap.size + 1, 0, none⟩)]) rfl trivial (enters_of Tryz.func140 (by kernel_rfl) rfl)
        (below_stops (n - 1) (w1.heap.size + 1 + 1) (w1.heap.size + 1) W0.heap.size t hL b o cap k hcap hcm (by omega) tk c hc W0 cP cS (by omega) (HN.out.keep hBw0) (HC.out.keep hBw0) (by omega)) KpT.trans (fun W l o o' h hl hc _ => KpT.put (s := W0.heap.size) (by omega) W l o o' h hl hc) (Below.refl _ _) (fun _ => rfl)
        (fun pre W => (∀ x ∈ pre, mkO (opA t (plA t (k + 1) x.1)) = kdC (ixO (opA t k)) x.1) ∧ Below W0.heap.size W0 W)
        (fun cc pre W => (cc = .ret ∧ ∃ x : Fin c, mkO (opA t (plA t (k + 1) x.1)) ≠ kdC (ixO (opA t k)) x.1) ∧ Boxed W (w.heap.size + 1) 4 (.bool false) ∧ (∀ D ∈ Ds, W.heap[D]? = some (.deferred (some []))) ∧ Below w.heap.size w W)
        (OwnFrom.and (ownFrom_pure _ _) (ownFrom_below (Nat.le_refl _) (Nat.le_refl _)))
        (fun cc => OwnFrom.and (ownFrom_pure _ _) (OwnFrom.and (Go.Own.from (boxed_own (w.heap.size + 1) 4 (fun _ : List (Fin c) => .bool false)) _) (OwnFrom.and (fun s A B row hs hg hr D hD => (hg.block D (Array.getElem?_eq_some_iff.1 (hs D hD)).1 (fun e => by
            obtain ⟨h, _⟩ := hr D e.symm
            have := HDlt.out D hD
            omega)).trans (hs D hD)) (ownFrom_below (Nat.le_refl _) (by omega)))))
        ⟨fun x hx => absurd hx List.not_mem_nil, Below.refl _ _⟩
        (fun x => { tmps := #[.slice (some ⟨b, o, none⟩) t.length cap, .pointer (some ⟨w.heap.size, 0, none⟩), .pointer (some ⟨w.heap.size + 1, 0, none⟩), .int .i64 (k : Int), .pointer (some ⟨wr.heap.size, 0, none⟩), .pointer (some ⟨w1.heap.size, 0, none⟩), .int .i64 (x.1 : Int), .int .i64 ((plA t (k + 1) x.1 : Nat) : Int), .slice (some ⟨b, o, none⟩) t.length cap, .int .i64 (t.length : Int), .int .i64 (k : Int), .bool true, .int .i64 (k : Int), .pointer (some ⟨b, o + k * 5, none⟩), .agg #[.int .i64 nd.op, .int .i64 nd.a, .int .i64 nd.b, .int .i64 nd.num, .int .i64 nd.den], .pointer (some ⟨wr.heap.size, 0, none⟩), .int .i64 nd.op, .agg #[.int .i64 m0, .int .i64 m1, .int .i64 m2, .int .i64 m3, .int .i64 m4, .int .i64 m5, .int .i64 m6, .bool m7], .slice (some ⟨b, o, none⟩) t.length cap, .int .i64 (k : Int), .func (.func 140) #[] #[.pointer (some ⟨w1.heap.size + 1 + 1, 0, none⟩), .pointer (some ⟨w1.heap.size + 1, 0, none⟩)], .int .i64 (x.1 : Int), .int .i64 ((plA t (k + 1) x.1 : Nat) : Int), u23, u24, u25, u26, u27, u28, u29, u30, u31, u32, u33, u34], defers := [] }) ?assign ?body ?done ?stop
      case assign =>
        intro l x W K hK
        dsimp only [encT]
        gi_wp2
        exact hK
      case body =>
        rintro l pre x W ⟨hpre, hB⟩ hltp
        have hd : 1 ≤ n - 1 - 1 := by omega
        have hmx : Tryz.prog.follows .mixedOrders = true := by kernel_rfl
        obtain ⟨f1, f2, f3, _⟩ := HF.out x W hB
        have hRW := boxB hB bR0
        have cR := hRW.cell
        have fR := hRW.frozen
        have HB := Lib.hid hB
        have HPre := Lib.hid hpre
        have HRW := Lib.hid hRW
        have HSort : Hid (∀ W', Below W0.heap.size W0 W' → Calls Tryz.prog 115 #[.int .i64 (opA t (plA t (k + 1) x.1))] W' fun e w' => e = .returned (.int .i64 (mkO (opA t (plA t (k + 1) x.1)))) ∧ Below W'.heap.size W' w') := Lib.hid (fun W' hb => tsort_any _ W' (HF.out x W' hb).2.2.2)
        have HX2 : Hid ((∃ x : Fin c, mkO (opA t (plA t (k + 1) x.1)) ≠ kdC (ixO (opA t k)) x.1) ∨ mkO (opA t (plA t (k + 1) x.1)) = kdC (ixO (opA t k)) x.1) := Lib.hid (by
          by_cases e : mkO (opA t (plA t (k + 1) x.1)) = kdC (ixO (opA t k)) x.1
          · exact .inr e
          · exact .inl ⟨x, e⟩)
        have j0 : (0 : Int) ≤ ((plA t (k + 1) x.1 : Nat) : Int) := by omega
        have j1 : ((plA t (k + 1) x.1 : Nat) : Int) < (t.length : Int) := by have := hKin x; omega
        have j2 : (0 : Int) ≤ (x.1 : Int) := by omega
        have j3 : (x.1 : Int) < 4 := by have := x.2; omega
        obtain ⟨a1, ha1⟩ : ∃ a1, a1 = mkO (opA t (plA t (k + 1) x.1)) := ⟨_, rfl⟩
        obtain ⟨d1, hd1⟩ : ∃ d1, d1 = kdC (ixO (opA t k)) x.1 := ⟨_, rfl⟩
        rw [← ha1] at HSort
        rw [← hd1] at f3
        have HAD := Lib.hid (And.intro ha1 hd1)
        have HF3 : Hid (∀ W', Below W0.heap.size W0 W' → W'.cell? ⟨w.heap.size, 0, none⟩ = some (.slice (some ⟨b, o, none⟩) t.length cap) ∧ W'.cell? ⟨b, o + plA t (k + 1) x.1 * 5, none⟩ = some (.int .i64 (opA t (plA t (k + 1) x.1))) ∧ W'.cell? ⟨w1.heap.size, 1 + x.1, none⟩ = some (.int .i64 d1)) := Lib.hid (fun W' hb => by
          obtain ⟨g1, g2, g3, _⟩ := HF.out x W' hb
          rw [hd1]; exact ⟨g1, g2, g3⟩)
        clear hpre hB hRW ha1 hd1
        gi_wp2
        refine round_held (fun w' => w'.cell? ⟨w.heap.size, 0, none⟩ = some (.slice (some ⟨b, o, none⟩) t.length cap) ∧ w'.cell? ⟨b, o + plA t (k + 1) x.1 * 5, none⟩ = some (.int .i64 (opA t (plA t (k + 1) x.1))) ∧ w'.cell? ⟨w1.heap.size, 1 + x.1, none⟩ = some (.int .i64 d1) ∧ Below W.heap.size W w') hmx (by kernel_rfl) (fun ⟨_, _, h⟩ => h) ⟨f1, f2, f3, Below.drew (Below.refl _ _)⟩ (fun hS0 => ?_)
        refine wpAnyH_take (i := 0) (v := .slice (some ⟨b, o, none⟩) t.length cap) rfl (by kernel_rfl) (by kernel_rfl) (by kernel_rfl) (fun _ _ _ h => h) (Or.inl ⟨by rfl, fun w' hS => ?_⟩) (by assumption) ?_
        · obtain ⟨q1, q2, q3, q4⟩ := hS
          go_simp
        simp only [Act.put]
        refine wpAnyH_take (i := 1) (v := .int .i64 ((plA t (k + 1) x.1 : Nat) : Int)) rfl (by kernel_rfl) (by kernel_rfl) (by kernel_rfl) (fun _ _ _ h => h) (Or.inl ⟨by rfl, fun w' hS => ?_⟩) (by assumption) ?_
        · obtain ⟨q1, q2, q3, q4⟩ := hS
          go_simp
        simp only [Act.put]
        refine wpAnyH_take (i := 2) (v := .pointer (some ⟨b, o + plA t (k + 1) x.1 * 5, none⟩)) rfl (by kernel_rfl) (by kernel_rfl) (by kernel_rfl) (fun _ _ _ h => h) (Or.inl ⟨by rfl, fun w' hS => ?_⟩) (by assumption) ?_
        · obtain ⟨q1, q2, q3, q4⟩ := hS
          go_simp
        simp only [Act.put]
        refine wpAnyH_take (i := 3) (v := .pointer (some ⟨b, o + plA t (k + 1) x.1 * 5, none⟩)) rfl (by kernel_rfl) (by kernel_rfl) (by kernel_rfl) (fun _ _ _ h => h) (Or.inl ⟨by rfl, fun w' hS => ?_⟩) (by assumption) ?_
        · obtain ⟨q1, q2, q3, q4⟩ := hS
          go_simp
        simp only [Act.put]
        refine wpAnyH_take (i := 4) (v := .int .i64 (opA t (plA t (k + 1) x.1))) rfl (by kernel_rfl) (by kernel_rfl) (by kernel_rfl) (fun _ _ _ h => h) (Or.inl ⟨by rfl, fun w' hS => ?_⟩) (by assumption) ?_
        · obtain ⟨q1, q2, q3, q4⟩ := hS
          go_simp
        simp only [Act.put]
        refine wpAnyH_take (i := 6) (v := .int .i64 (x.1 : Int)) rfl (by kernel_rfl) (by kernel_rfl) (by kernel_rfl) (fun _ _ _ h => h) (Or.inl ⟨by rfl, fun w' hS => ?_⟩) (by assumption) ?_
        · obtain ⟨q1, q2, q3, q4⟩ := hS
          go_simp
        simp only [Act.put]
        refine wpAnyH_take (i := 7) (v := .pointer (some ⟨w1.heap.size, 1, none⟩)) rfl (by kernel_rfl) (by kernel_rfl) (by kernel_rfl) (fun _ _ _ h => h) (Or.inl ⟨by rfl, fun w' hS => ?_⟩) (by assumption) ?_
        · obtain ⟨q1, q2, q3, q4⟩ := hS
          go_simp
        simp only [Act.put]
        refine wpAnyH_take (i := 8) (v := .pointer (some ⟨w1.heap.size, 1 + x.1, none⟩)) rfl (by kernel_rfl) (by kernel_rfl) (by kernel_rfl) (fun _ _ _ h => h) (Or.inl ⟨by rfl, fun w' hS => ?_⟩) (by assumption) ?_
        · obtain ⟨q1, q2, q3, q4⟩ := hS
          go_simp
        simp only [Act.put]
        refine wpAnyH_take (i := 9) (v := .int .i64 (d1 : Int)) rfl (by kernel_rfl) (by kernel_rfl) (by kernel_rfl) (fun _ _ _ h => h) (Or.inl ⟨by rfl, fun w' hS => ?_⟩) (by assumption) ?_
        · obtain ⟨q1, q2, q3, q4⟩ := hS
          go_simp
        simp only [Act.put]
        refine wpAnyH_ready (rs := [5]) (by kernel_rfl) (by simp) (AllReadyH.cons rfl (fun K hK => ?_) AllReadyH.nil)
        go_simp
        refine (HSort.out _ (Below.drew HB.out)).mono ?_
        rintro e w' ⟨rfl, hbx⟩
        have HBy := Lib.hid (undrewT hbx)
        have HBx := Lib.hid (HB.out.trans (HBy.out.mono HB.out.size))
        obtain ⟨g1, g2, g3⟩ := HF3.out w' HBx.out
        clear hbx
        refine hK.out _ _ ⟨g1, g2, g3, HBy.out⟩ (fun hS1 => ?_)
        clear hK hS0
        refine wpAnyH_take (i := 10) (v := .bool ((a1 : Int) != (d1 : Int))) rfl (by kernel_rfl) (by kernel_rfl) (by kernel_rfl) (fun _ _ _ h => h) (Or.inl ⟨by rfl, fun w' hS => ?_⟩) (by assumption) ?_
        · go_simp
        simp only [Act.put]
        refine wpAnyH_done (by kernel_rfl) (NoPanic.normal ?_) _
        show Exit.then _ _ Exit.normal { tmps := #[.slice (some ⟨b, o, none⟩) t.length cap, .pointer (some ⟨w.heap.size, 0, none⟩), .pointer (some ⟨w.heap.size + 1, 0, none⟩), .int .i64 (k : Int), .pointer (some ⟨wr.heap.size, 0, none⟩), .pointer (some ⟨w1.heap.size, 0, none⟩), .int .i64 (x.1 : Int), .int .i64 ((plA t (k + 1) x.1 : Nat) : Int), .slice (some ⟨b, o, none⟩) t.length cap, .int .i64 (t.length : Int), .int .i64 (k : Int), .bool true, .int .i64 (k : Int), .pointer (some ⟨b, o + k * 5, none⟩), .agg #[.int .i64 nd.op, .int .i64 nd.a, .int .i64 nd.b, .int .i64 nd.num, .int .i64 nd.den], .pointer (some ⟨wr.heap.size, 0, none⟩), .int .i64 nd.op, .agg #[.int .i64 m0, .int .i64 m1, .int .i64 m2, .int .i64 m3, .int .i64 m4, .int .i64 m5, .int .i64 m6, .bool m7], .slice (some ⟨b, o, none⟩) t.length cap, .int .i64 (k : Int), .func (.func 140) #[] #[.pointer (some ⟨w1.heap.size + 1 + 1, 0, none⟩), .pointer (some ⟨w1.heap.size + 1, 0, none⟩)], .int .i64 (x.1 : Int), .int .i64 ((plA t (k + 1) x.1 : Nat) : Int), .slice (some ⟨b, o, none⟩) t.length cap, .int .i64 ((plA t (k + 1) x.1 : Nat) : Int), .pointer (some ⟨b, o + plA t (k + 1) x.1 * 5, none⟩), .pointer (some ⟨b, o + plA t (k + 1) x.1 * 5, none⟩), .int .i64 (opA t (plA t (k + 1) x.1)), .int .i64 (a1 : Int), .int .i64 (x.1 : Int), .pointer (some ⟨w1.heap.size, 1, none⟩), .pointer (some ⟨w1.heap.size, 1 + x.1, none⟩), .int .i64 (d1 : Int), .bool ((a1 : Int) != (d1 : Int)), u34], defers := [] } _
        have hRx := boxB HBy.out HRW.out
        have cRx := hRx.cell
        have fRx := hRx.frozen
        have HRx := Lib.hid hRx
        clear hS1 hRx cR fR
        by_cases hne : a1 = d1
        · have hb : ((a1 : Int) == (d1 : Int)) = true := by simp; omega
          have HNe := Lib.hid hne
          clear hne
          gi_wp2
          refine ⟨(othersT HBy.out).from _, KpT.of HB.out.size HBy.out, fun y hy => ?_, HBx.out⟩
          rcases List.mem_append.1 hy with hy | hy
          · exact HPre.out y hy
          · obtain rfl : y = x := by simpa using hy
            rw [← HAD.out.1, ← HAD.out.2]; exact HNe.out
        · have hb : ((a1 : Int) == (d1 : Int)) = false := by simp; omega
          have HNe := Lib.hid hne
          clear hne
          gi_wp2
          refine ⟨((othersT HBy.out).trans (KeepsOthers.setCell _ _ _)).from _, ⟨rfl, x, ?_⟩, HRx.out.set _, fun D hD => ?_, (hBw0.trans (HBx.out.mono hBw0.size)).setCell (p := ⟨w.heap.size + 1, 0, none⟩) (Nat.le_succ _) _⟩
          · rw [← HAD.out.1, ← HAD.out.2]; exact HNe.out
          · obtain ⟨q1, q2, q3⟩ := HDlt.out D hD
            refine (Below.heap_setCell _ _ _ D (fun e => ?_)).trans ((HBx.out.block D (by omega)).trans q3)
            have e' : D = w.heap.size + 1 := e
            have h2 : W0.heap[w.heap.size + 1]? = _ := bR0
            rw [e', h2] at q3; cases q3
      case done =>
        rintro D ys W hD rfl ⟨hpre, hB⟩ hK
        have hDn : D ∉ Ds := fun h => by
          have := HDlt.out D h
          omega
        have hsrt : SrtA t k := fun i hi => hpre ⟨i, by rw [hc]; exact hi⟩ (memF c c (Nat.le_refl _) i (by rw [hc]; exact hi))
        gi_wp2
        refine ⟨⟨k + 1, D :: Ds, _, _, _, _, _, _, _, _, _, _, _, _, _, _, _, _, _, _, _, _, _, _, _, _, _, _, _, _, _, ⟨by omega, fun q hq => ?_, List.nodup_cons.2 ⟨hDn, HI.out.2.1⟩, fun D' hD' => ?_, boxB hB bT0, boxB hB bR0, hBw0.trans (hB.mono hBw0.size)⟩, rfl⟩, by simp [RowKit.intOf]; omega⟩
        · by_cases e : q = k
          · subst e; exact hsrt
          · exact HI.out.1 q (by omega)
        · rcases List.mem_cons.1 hD' with e | h
          · subst e; exact ⟨by omega, hK⟩
          · obtain ⟨g1, g2, g3⟩ := HDlt.out D' h
            exact ⟨g1, (hB.block D' (by omega)).trans g3⟩
      case stop =>
        rintro D cc pre W hD _ ⟨⟨rfl, x, hx⟩, hRx, hDx, hBx⟩ hK
        have hDn : D ∉ Ds := fun h => by
          have := HDlt.out D h
          omega
        have HX : Hid (¬ ∀ q, q < t.length → SrtA t q) := Lib.hid (fun h => hx (h k hlt x.1 (by rw [← hc]; exact x.2)))
        have HN1 := Lib.hid (List.nodup_cons.2 ⟨hDn, HI.out.2.1⟩)
        have HDs : Hid (∀ D' ∈ D :: Ds, w.heap.size ≤ D' ∧ W.heap[D']? = some (.deferred (some []))) := Lib.hid (fun D' hD' => by
          rcases List.mem_cons.1 hD' with e | h
          · subst e; exact ⟨by omega, hK⟩
          · exact ⟨(HDlt.out D' h).1, hDx D' h⟩)
        have HR := Lib.hid hRx.cell
        clear hx hDn hDx hRx
        gi_wp2
        refine leaves_marks (D :: Ds) W HN1.out HDs.out (fun W' hb hcw => ?_)
        have hcr := hcw _ _ HR.out
        exact ⟨.bool false, by simp [results, Tryz.results113, go_sem, hcr], ⟨false, rfl, ⟨(fun h => by cases h), fun h => absurd h HX.out⟩⟩, hBx.trans hb⟩
    · obtain rfl : k = t.length := by omega
      have HSr : Hid (∀ q, q < t.length → SrtA t q) := Lib.hid hsr
      have HDs := Lib.hid hDs
      have HN1 := Lib.hid hnd
      have bR2 := hRb.set (.bool true)
      have cR := hRb.cell
      have fR := hRb.frozen
      have HR := Lib.hid bR2.cell
      have HB := Lib.hid hB
      have HRb := Lib.hid hRb
      clear hsr hDs hnd hTb hRb hB bR2
      gi_wp2
      refine leaves_marks (B := w.heap.size) Ds _ HN1.out (fun D hD => ⟨(HDs.out D hD).1, (Below.heap_setCell _ _ _ D (fun e => ?_)).trans (HDs.out D hD).2⟩) (fun W' hb hcw => ?_)
      · have h1 := (HDs.out D hD).2
        have h2 : wr.heap[w.heap.size + 1]? = _ := HRb.out
        have e' : D = w.heap.size + 1 := e
        rw [e', h2] at h1; cases h1
      · have hcr := hcw _ _ HR.out
        exact ⟨.bool true, by simp [results, Tryz.results113, go_sem, hcr], ⟨true, rfl, ⟨fun _ => HSr.out, fun _ => rfl⟩⟩, (HB.out.setCell (p := ⟨w.heap.size + 1, 0, none⟩) (Nat.le_succ _) _).trans hb⟩

end Go.Proofs.YtgeneoamngfomaaGreatDoor

namespace Go.Proofs.YtgeneoamngfomaaGreatDoor
open Go.RowKit Go.Lib
set_option linter.unusedVariables false

def I64T (n : Int) : Prop := -9223372036854775808 ≤ n ∧ n ≤ 9223372036854775807
def fldA (k : Nat) (n : Nd) : Bool := decide (0 ≤ n.a ∧ n.a ≤ (maN k : Int))
def fldB (k : Nat) (n : Nd) : Bool := decide (0 ≤ n.b ∧ n.b ≤ (mbN k : Int))
def fldV (k : Nat) (n : Nd) : Bool := if k = 1 then decide (chkE n.num n.den = 0) else decide (n.num = 0 ∧ n.den = 0)
def ndC (n : Nd) : Array Value := #[.int .i64 n.op, .int .i64 n.a, .int .i64 n.b, .int .i64 n.num, .int .i64 n.den]

theorem ret_boolT {a b : Bool} (h : a = b) : Ending.returned (.bool a) = .returned (.bool b) := by rw [h]
set_option maxHeartbeats 1000000 in
set_option maxRecDepth 100000 in
theorem mayA_any (k : Nat) (n : Nd) (w : World) : Calls Tryz.prog 137 #[.agg (rowC k), .agg (ndC n)] w fun e w' => e = .returned (.bool (fldA k n)) ∧ Below w.heap.size w w' := by
  obtain ⟨r, hr⟩ : ∃ r, r = fldA k n := ⟨_, rfl⟩
  have HR := Lib.hid hr
  rw [← hr]
  have hB : ∀ o o', Below w.heap.size w ((w.alloc o).alloc o') := fun o o' => onB (newB _ _) (newB _ _)
  have HB := Lib.hid hB
  unfold rowC ndC
  have hR : Hid (∃ m, m = (maN k : Int)) := Lib.hid ⟨_, rfl⟩
  generalize mkN k = m0 at *
  generalize kdC k 0 = m1 at *
  generalize kdC k 1 = m2 at *
  generalize kdC k 2 = m3 at *
  generalize kdC k 3 = m4 at *
  generalize mbN k = m6 at *
  generalize vlB k = m7 at *
  have hfa : fldA k n = decide (0 ≤ n.a ∧ n.a ≤ (maN k : Int)) := rfl
  have HF := Lib.hid hfa
  clear hr hfa hB
  generalize maN k = m5 at *
  obtain ⟨op, a, b, num, den⟩ := n
  dsimp only at *
  by_cases h0 : 0 ≤ a
  · by_cases h1 : a ≤ (m5 : Int)
    · go_enter Tryz.func137, Tryz.ntmps137
      go_wp2_with fail
      go_ret
      exact ⟨ret_boolT (by rw [HR.out, HF.out]; simp; omega), HB.out _ _⟩
    · go_enter Tryz.func137, Tryz.ntmps137
      go_wp2_with fail
      go_ret
      exact ⟨ret_boolT (by rw [HR.out, HF.out]; simp; omega), HB.out _ _⟩
  · have h0' : a < 0 := by omega
    go_enter Tryz.func137, Tryz.ntmps137
    go_wp2_with fail
    go_ret
    exact ⟨ret_boolT (by rw [HR.out, HF.out]; simp; omega), HB.out _ _⟩

set_option maxHeartbeats 1000000 in
set_option maxRecDepth 100000 in
theorem mayB_any (k : Nat) (n : Nd) (w : World) : Calls Tryz.prog 138 #[.agg (rowC k), .agg (ndC n)] w fun e w' => e = .returned (.bool (fldB k n)) ∧ Below w.heap.size w w' := by
  obtain ⟨r, hr⟩ : ∃ r, r = fldB k n := ⟨_, rfl⟩
  have HR := Lib.hid hr
  rw [← hr]
  have hB : ∀ o o', Below w.heap.size w ((w.alloc o).alloc o') := fun o o' => onB (newB _ _) (newB _ _)
  have HB := Lib.hid hB
  unfold rowC ndC
  have hR : Hid (∃ m, m = (mbN k : Int)) := Lib.hid ⟨_, rfl⟩
  generalize mkN k = m0 at *
  generalize kdC k 0 = m1 at *
  generalize kdC k 1 = m2 at *
  generalize kdC k 2 = m3 at *
  generalize kdC k 3 = m4 at *
  generalize maN k = m5 at *
  generalize vlB k = m7 at *
  have hfa : fldB k n = decide (0 ≤ n.b ∧ n.b ≤ (mbN k : Int)) := rfl
  have HF := Lib.hid hfa
  clear hr hfa hB
  generalize mbN k = m6 at *
  obtain ⟨op, a, b, num, den⟩ := n
  dsimp only at *
  by_cases h0 : 0 ≤ b
  · by_cases h1 : b ≤ (m6 : Int)
    · go_enter Tryz.func138, Tryz.ntmps138
      go_wp2_with fail
      go_ret
      exact ⟨ret_boolT (by rw [HR.out, HF.out]; simp; omega), HB.out _ _⟩
    · go_enter Tryz.func138, Tryz.ntmps138
      go_wp2_with fail
      go_ret
      exact ⟨ret_boolT (by rw [HR.out, HF.out]; simp; omega), HB.out _ _⟩
  · have h0' : b < 0 := by omega
    go_enter Tryz.func138, Tryz.ntmps138
    go_wp2_with fail
    go_ret
    exact ⟨ret_boolT (by rw [HR.out, HF.out]; simp; omega), HB.out _ _⟩

set_option maxHeartbeats 1000000 in
set_option maxRecDepth 100000 in
theorem mayV_any (k : Nat) (n : Nd) (hn : I64T n.num) (hd : I64T n.den) (w : World) : Calls Tryz.prog 139 #[.agg (rowC k), .agg (ndC n)] w fun e w' => e = .returned (.bool (fldV k n)) ∧ Below w.heap.size w w' := by
  obtain ⟨r, hr⟩ : ∃ r, r = fldV k n := ⟨_, rfl⟩
  have HR := Lib.hid hr
  rw [← hr]
  have hB : ∀ o o', Below w.heap.size w ((w.alloc o).alloc o') := fun o o' => onB (newB _ _) (newB _ _)
  have HB := Lib.hid hB
  have HCk := Lib.hid (fun w => check_any n.num n.den w hn.1 hn.2 hd.1 hd.2)
  unfold rowC ndC
  by_cases hk : k = 1
  · have HF : Hid (fldV k n = decide (chkE n.num n.den = 0)) := Lib.hid (by unfold fldV; rw [if_pos hk])
    have hv : vlB k = true := by subst hk; rfl
    rw [hv]
    generalize mkN k = m0 at *
    generalize kdC k 0 = m1 at *
    generalize kdC k 1 = m2 at *
    generalize kdC k 2 = m3 at *
    generalize kdC k 3 = m4 at *
    generalize maN k = m5 at *
    generalize mbN k = m6 at *
    clear hr hB hk hv hn hd
    obtain ⟨op, a, b, num, den⟩ := n
    dsimp only at *
    generalize chkE num den = ce at *
    by_cases h0 : ce = 0
    · subst h0
      go_enter Tryz.func139, Tryz.ntmps139
      go_wp2_with fail
      refine (HCk.out _).mono ?_
      rintro e w1 ⟨rfl, hb⟩
      go_wp2_with fail
      go_ret
      exact ⟨ret_boolT (by rw [HR.out, HF.out]; rfl), onB (HB.out _ _) hb⟩
    · have hz : (ce == 0) = false := by simp; omega
      have H0 := Lib.hid h0
      clear h0
      go_enter Tryz.func139, Tryz.ntmps139
      go_wp2_with fail
      refine (HCk.out _).mono ?_
      rintro e w1 ⟨rfl, hb⟩
      go_wp2_with fail
      go_ret
      exact ⟨ret_boolT (by rw [HR.out, HF.out, decide_eq_false H0.out]), onB (HB.out _ _) hb⟩
  · have HF : Hid (fldV k n = decide (n.num = 0 ∧ n.den = 0)) := Lib.hid (by unfold fldV; rw [if_neg hk])
    have hv : vlB k = false := by unfold vlB; simp [hk]
    rw [hv]
    generalize mkN k = m0 at *
    generalize kdC k 0 = m1 at *
    generalize kdC k 1 = m2 at *
    generalize kdC k 2 = m3 at *
    generalize kdC k 3 = m4 at *
    generalize maN k = m5 at *
    generalize mbN k = m6 at *
    clear hr hB hk hv hn hd HCk
    obtain ⟨op, a, b, num, den⟩ := n
    dsimp only at *
    go_enter Tryz.func139, Tryz.ntmps139
    go_wp2_with fail
    all_goals go_ret
    all_goals exact ⟨ret_boolT (by rw [HR.out, HF.out]; simp [*]), HB.out _ _⟩

theorem index0T (a b c : Value) (w : World) : (Instr.index 219 (.agg #[a, b, c]) (.int .i64 0)).run Tryz.prog w = .ok a w := by kernel_rfl
theorem index1T (a b c : Value) (w : World) : (Instr.index 219 (.agg #[a, b, c]) (.int .i64 1)).run Tryz.prog w = .ok b w := by kernel_rfl
theorem index2T (a b c : Value) (w : World) : (Instr.index 219 (.agg #[a, b, c]) (.int .i64 2)).run Tryz.prog w = .ok c w := by kernel_rfl
/-- May a node's fields be? -/
def fldO (n : Nd) : Bool := fldA (ixO n.op) n && fldB (ixO n.op) n && fldV (ixO n.op) n
set_option maxHeartbeats 4000000 in
set_option maxRecDepth 100000 in
theorem filled_main (t : List Nd) (hL : t.length ≤ 1000) (b o cap : Nat) (hcap : t.length ≤ cap) (hcm : cap ≤ 9223372036854775807) (hbd : ∀ p, p < t.length → I64T (t.getD p default).num ∧ I64T (t.getD p default).den) (w : World) (hN : NdA w b o t) (C : KndW w) :
    Calls Tryz.prog 112 #[.slice (some ⟨b, o, none⟩) t.length cap] w fun e w' => (∃ r, e = .returned (.bool r) ∧ (r = true ↔ ∀ p, p < t.length → fldO (t.getD p default) = true)) ∧ Below w.heap.size w w' := by
  have HN := Lib.hid hN
  have HC := Lib.hid C
  have HBd := Lib.hid hbd
  clear hN C hbd
  go_enter Tryz.func112, Tryz.ntmps112
  go_wp2_with fail
  go_step3
  go_wp2_with fail
  go_step3
  go_wp2_with fail
  go_loopw [3, 11] (fun vo vi wx => ∃ k : Nat, k ≤ t.length ∧ vi = .int .i64 k ∧ vo = .bool true ∧ (∀ p, p < k → fldO (t.getD p default) = true) ∧ Below w.heap.size w wx) (fun _ vi _ => t.length - (RowKit.intOf vi).toNat)
  case atStart => exact ⟨0, Nat.zero_le _, rfl, rfl, fun p hp => absurd hp (Nat.not_lt_zero p), Below.refl _ _⟩
  case round =>
    obtain ⟨k, hk, rfl, rfl, hok, hb⟩ := hrel
    have HB := Lib.hid hb
    have HOk := Lib.hid hok
    by_cases hlt : k < t.length
    · have i0 : (0 : Int) ≤ (k : Int) := by omega
      have i1 : (k : Int) < (t.length : Int) := by omega
      have hnc := (HN.out.keep hb) k hlt
      have hbb := HBd.out k hlt
      obtain ⟨nd, hnd⟩ : ∃ nd, nd = t.getD k default := ⟨_, rfl⟩
      have HNd := Lib.hid hnd
      rw [← hnd] at hnc hbb
      obtain ⟨e0, e1, e2, e3, e4⟩ := hnc
      have HK := Lib.hid (fun w' (hb : Below wr.heap.size wr w') => kindof_any nd.op w' ((HC.out.keep HB.out).keep hb))
      have HMA := Lib.hid (fun w => mayA_any (ixO nd.op) nd w)
      have HMB := Lib.hid (fun w => mayB_any (ixO nd.op) nd w)
      have HMV := Lib.hid (fun w => mayV_any (ixO nd.op) nd hbb.1 hbb.2 w)
      have HF : Hid (fldO nd = (fldA (ixO nd.op) nd && fldB (ixO nd.op) nd && fldV (ixO nd.op) nd)) := Lib.hid rfl
      have HNew := Lib.hid (newB wr)
      obtain ⟨m0, m1, m2, m3, m4, m5, m6, m7, hR⟩ := rowC_is (ixO nd.op)
      rw [hR] at HK HMA HMB HMV
      unfold ndC at HMA HMB HMV
      generalize fldA (ixO nd.op) nd = fa at *
      generalize fldB (ixO nd.op) nd = fb at *
      generalize fldV (ixO nd.op) nd = fv at *
      clear hb hok hnd hbb hR
      go_wp2_with fail
      refine (HK.out _ (HNew.out _)).mono ?_
      rintro e w1 ⟨rfl, hb1⟩
      have HB1 := Lib.hid hb1
      have n0 := keepT hb1 (show (wr.alloc (.cells #[.int .i64 nd.op, .int .i64 nd.a, .int .i64 nd.b, .int .i64 nd.num, .int .i64 nd.den] 60)).cell? ⟨wr.heap.size, 0, none⟩ = some (.int .i64 nd.op) by rw [World.cell?_alloc_at _ _ _ _ rfl]; rfl)
      have n1 := keepT hb1 (show (wr.alloc (.cells #[.int .i64 nd.op, .int .i64 nd.a, .int .i64 nd.b, .int .i64 nd.num, .int .i64 nd.den] 60)).cell? ⟨wr.heap.size, 1, none⟩ = some (.int .i64 nd.a) by rw [World.cell?_alloc_at _ _ _ _ rfl]; rfl)
      have n2 := keepT hb1 (show (wr.alloc (.cells #[.int .i64 nd.op, .int .i64 nd.a, .int .i64 nd.b, .int .i64 nd.num, .int .i64 nd.den] 60)).cell? ⟨wr.heap.size, 2, none⟩ = some (.int .i64 nd.b) by rw [World.cell?_alloc_at _ _ _ _ rfl]; rfl)
      have n3 := keepT hb1 (show (wr.alloc (.cells #[.int .i64 nd.op, .int .i64 nd.a, .int .i64 nd.b, .int .i64 nd.num, .int .i64 nd.den] 60)).cell? ⟨wr.heap.size, 3, none⟩ = some (.int .i64 nd.num) by rw [World.cell?_alloc_at _ _ _ _ rfl]; rfl)
      have n4 := keepT hb1 (show (wr.alloc (.cells #[.int .i64 nd.op, .int .i64 nd.a, .int .i64 nd.b, .int .i64 nd.num, .int .i64 nd.den] 60)).cell? ⟨wr.heap.size, 4, none⟩ = some (.int .i64 nd.den) by rw [World.cell?_alloc_at _ _ _ _ rfl]; rfl)
      have q0 := newT n0
      have q1 := newT n1
      have q2 := newT n2
      have q3 := newT n3
      have q4 := newT n4
      clear hb1 n0 n1 n2 n3 n4
      go_wp2_with fail
      obtain ⟨wq, hwq⟩ : ∃ wq, wq = w1.alloc (.cells #[.int .i64 m0, .int .i64 m1, .int .i64 m2, .int .i64 m3, .int .i64 m4, .int .i64 m5, .int .i64 m6, .bool m7] 216) := ⟨_, rfl⟩
      have HQ : Hid (Below wr.heap.size wr wq) := Lib.hid (by rw [hwq]; exact onB (HNew.out _) (onB HB1.out (newB _ _)))
      have HCells : Hid (∀ wx, Below wq.heap.size wq wx → wx.cell? ⟨wr.heap.size, 0, none⟩ = some (.int .i64 nd.op) ∧ wx.cell? ⟨wr.heap.size, 1, none⟩ = some (.int .i64 nd.a) ∧ wx.cell? ⟨wr.heap.size, 2, none⟩ = some (.int .i64 nd.b) ∧ wx.cell? ⟨wr.heap.size, 3, none⟩ = some (.int .i64 nd.num) ∧ wx.cell? ⟨wr.heap.size, 4, none⟩ = some (.int .i64 nd.den)) := Lib.hid (fun wx hb => by
        rw [hwq] at hb
        exact ⟨keepT hb (q0 _), keepT hb (q1 _), keepT hb (q2 _), keepT hb (q3 _), keepT hb (q4 _)⟩)
      rw [← hwq]
      clear hwq q0 q1 q2 q3 q4
      go_loopw [3, 25] (fun vo vj wx => ∃ j : Nat, j ≤ 3 ∧ vj = .int .i64 j ∧ vo = .bool true ∧ (0 < j → fa = true) ∧ (1 < j → fb = true) ∧ (2 < j → fv = true) ∧ Below wq.heap.size wq wx) (fun _ vj _ => 3 - (RowKit.intOf vj).toNat)
      case atStart => exact ⟨0, by omega, rfl, rfl, fun h => absurd h (by omega), fun h => absurd h (by omega), fun h => absurd h (by omega), Below.refl _ _⟩
      case round =>
        obtain ⟨j, hj, rfl, rfl, ha, hb, hv, hbq⟩ := hrel
        have HBq := Lib.hid hbq
        have HA := Lib.hid (And.intro ha (And.intro hb hv))
        obtain ⟨n0, n1, n2, n3, n4⟩ := HCells.out _ hbq
        clear ha hb hv hbq
        match j, hj with
        | 0, _ =>
          have hix := index0T
          go_wp2_with fail
          refine (HMA.out _).mono ?_
          rintro e w2 ⟨rfl, hb2⟩
          have HB2 := Lib.hid (onB HBq.out hb2)
          clear hb2
          cases fa with
          | true =>
            go_wp2_with fail
            go_roundw
            case rel => exact ⟨1, by omega, by go_num, rfl, (fun _ => by first | rfl | trivial), (fun h => absurd h (by omega)), (fun h => absurd h (by omega)), HB2.out⟩
            case measure => simp [RowKit.intOf]
          | false =>
            have HNo : Hid (¬ ∀ p, p < t.length → fldO (t.getD p default) = true) := Lib.hid (fun h => by
              have := h k hlt
              rw [← HNd.out, HF.out] at this
              simp at this)
            go_wp2_with fail
            try rw [Exit.noGoto_ret]
            go_ret
            exact ⟨⟨false, rfl, ⟨(fun h => by cases h), fun h => absurd h HNo.out⟩⟩, onB HB.out (onB HQ.out HB2.out)⟩
        | 1, _ =>
          have hix := index1T
          go_wp2_with fail
          refine (HMB.out _).mono ?_
          rintro e w2 ⟨rfl, hb2⟩
          have HB2 := Lib.hid (onB HBq.out hb2)
          clear hb2
          cases fb with
          | true =>
            go_wp2_with fail
            go_roundw
            case rel => exact ⟨2, by omega, by go_num, rfl, (fun _ => HA.out.1 (by omega)), (fun _ => by first | rfl | trivial), (fun h => absurd h (by omega)), HB2.out⟩
            case measure => simp [RowKit.intOf]
          | false =>
            have HNo : Hid (¬ ∀ p, p < t.length → fldO (t.getD p default) = true) := Lib.hid (fun h => by
              have := h k hlt
              rw [← HNd.out, HF.out] at this
              simp at this)
            go_wp2_with fail
            try rw [Exit.noGoto_ret]
            go_ret
            exact ⟨⟨false, rfl, ⟨(fun h => by cases h), fun h => absurd h HNo.out⟩⟩, onB HB.out (onB HQ.out HB2.out)⟩
        | 2, _ =>
          have hix := index2T
          go_wp2_with fail
          refine (HMV.out _).mono ?_
          rintro e w2 ⟨rfl, hb2⟩
          have HB2 := Lib.hid (onB HBq.out hb2)
          clear hb2
          cases fv with
          | true =>
            go_wp2_with fail
            go_roundw
            case rel => exact ⟨3, by omega, by go_num, rfl, (fun _ => HA.out.1 (by omega)), (fun _ => HA.out.2.1 (by omega)), (fun _ => by first | rfl | trivial), HB2.out⟩
            case measure => simp [RowKit.intOf]
          | false =>
            have HNo : Hid (¬ ∀ p, p < t.length → fldO (t.getD p default) = true) := Lib.hid (fun h => by
              have := h k hlt
              rw [← HNd.out, HF.out] at this
              simp at this)
            go_wp2_with fail
            try rw [Exit.noGoto_ret]
            go_ret
            exact ⟨⟨false, rfl, ⟨(fun h => by cases h), fun h => absurd h HNo.out⟩⟩, onB HB.out (onB HQ.out HB2.out)⟩
        | 3, _ =>
          have HYes : Hid (fldO nd = true) := Lib.hid (by rw [HF.out, HA.out.1 (by omega), HA.out.2.1 (by omega), HA.out.2.2 (by omega)]; rfl)
          go_wp2_with fail
          go_roundw
          case rel =>
            refine ⟨k + 1, by omega, by go_num, rfl, fun p hp => ?_, onB HB.out (onB HQ.out HBq.out)⟩
            by_cases e : p = k
            · subst e; rw [← HNd.out]; exact HYes.out
            · exact HOk.out p (by omega)
          case measure => simp [RowKit.intOf]; omega
        | j + 4, h => exact absurd h (by omega)
    · obtain rfl : k = t.length := by omega
      clear hb hok
      go_wp2_with fail
      try rw [Exit.noGoto_ret]
      go_ret
      exact ⟨⟨true, rfl, ⟨fun _ => HOk.out, fun _ => rfl⟩⟩, HB.out⟩

end Go.Proofs.YtgeneoamngfomaaGreatDoor

namespace Go.Proofs.YtgeneoamngfomaaGreatDoor
open Go.RowKit Go.Lib
set_option linter.unusedVariables false

/-- Is all of a row one term? -/
def WholeT (t : List Nd) : Prop := scan 1 t = some t.length
instance (t : List Nd) : Decidable (WholeT t) := by unfold WholeT; infer_instance
theorem WholeT.tm {t : List Nd} (h : WholeT t) : TmA t 0 ∧ szA t 0 = t.length := TmA.of (t := t) (p := 0) h
theorem WholeT.of {t : List Nd} (h : TmA t 0) (h2 : szA t 0 = t.length) : WholeT t := by
  have := h.eq
  rw [h2] at this; exact this
/-- From any place of a row that is so many terms, some terms stand there up to the end. -/
theorem scan_tail {t : List Nd} : ∀ (p o : Nat), p < t.length → scan o t = some t.length → ∃ q, 1 ≤ q ∧ scan q (t.drop p) = some (t.length - p) := by
  induction t with
  | nil => intro p o hp; exact absurd hp (Nat.not_lt_zero _)
  | cons n xs ih =>
    intro p o hp h
    have ho : 1 ≤ o := by
      rcases Nat.eq_zero_or_pos o with e | e
      · subst e; rw [scan_zero] at h; cases h
      · exact e
    cases p with
    | zero => exact ⟨o, ho, h⟩
    | succ p =>
      obtain ⟨o', rfl⟩ : ∃ o', o = o' + 1 := ⟨o - 1, by omega⟩
      by_cases c : mkO n.op = 0
      · rw [scan_bad c] at h; cases h
      · rw [scan_cons c] at h
        obtain ⟨m, hm, e⟩ := Option.map_eq_some_iff.1 h
        have e' : m = xs.length := by simpa using e
        subst e'
        obtain ⟨q, h1, h2⟩ := ih p _ (by simpa using hp) hm
        exact ⟨q, h1, by simpa using h2⟩
/-- A term begins at each node of a term. -/
theorem WholeT.all {t : List Nd} (h : WholeT t) (p : Nat) (hp : p < t.length) : TmA t p := by
  obtain ⟨q, h1, h2⟩ := scan_tail p 1 hp h
  obtain ⟨q', rfl⟩ : ∃ q', q = 1 + q' := ⟨q - 1, by omega⟩
  rw [scan_add] at h2
  obtain ⟨m, hm, _⟩ := Option.bind_eq_some_iff.1 h2
  exact ⟨m, hm⟩

/-- A slice's nodes. -/
def SlT (w : World) (v : Value) (t : List Nd) : Prop := (t = [] ∧ ∃ a cap, v = .slice a 0 cap) ∨ (0 < t.length ∧ ∃ b o cap, v = .slice (some ⟨b, o, none⟩) t.length cap ∧ t.length ≤ cap ∧ cap ≤ 9223372036854775807 ∧ NdA w b o t)
theorem SlT.keep {w w' : World} {v : Value} {t : List Nd} (h : SlT w v t) (hb : Below w.heap.size w w') : SlT w' v t := by
  rcases h with h | ⟨h0, b, o, cap, h1, h2, h3, h4⟩
  · exact .inl h
  · exact .inr ⟨h0, b, o, cap, h1, h2, h3, h4.keep hb⟩
/-- Numbers that fit. -/
def BdT (t : List Nd) : Prop := ∀ p, p < t.length → I64T (t.getD p default).num ∧ I64T (t.getD p default).den

open Classical in
/-- What Of answers. -/
noncomputable def ofK (t : List Nd) : Nat × Nat :=
  if 64 < t.length then (0, 15) else if ¬ WholeT t then (0, 13) else if ¬ ∀ p, p < t.length → fldO (t.getD p default) = true then (0, 10)
  else if ¬ ∀ p, p < t.length → SrtA t p then (0, 14) else if 12 < dpA t 0 then (0, 15) else (mkO (opA t 0), 0)

set_option maxHeartbeats 2000000 in
set_option maxRecDepth 100000 in
theorem of_empty (a : Option Addr) (cap : Nat) (w : World) : Calls Tryz.prog 78 #[.slice a 0 cap] w fun e w' => e = .returned (.tuple #[.int .i64 0, .int .i64 13]) ∧ w = w' := by
  have HS := Lib.hid (fun w => size_out a 0 cap (by omega) 0 (.inr (by omega)) w)
  go_enter Tryz.func78, Tryz.ntmps78
  go_wp2_with fail
  refine (HS.out _).mono ?_
  rintro e w1 ⟨rfl, rfl⟩
  go_wp2_with fail
  go_ret2
  exact ⟨rfl, rfl⟩
theorem of_great (a : Option Addr) (len cap : Nat) (h : 64 < len) (hl : len ≤ 9223372036854775807) (w : World) : Calls Tryz.prog 78 #[.slice a len cap] w fun e w' => e = .returned (.tuple #[.int .i64 0, .int .i64 15]) ∧ w = w' := by
  have h1 : (64 : Int) < (len : Int) := by omega
  go_enter Tryz.func78, Tryz.ntmps78
  go_wp2_with fail
  go_ret2
  exact ⟨rfl, rfl⟩

set_option maxHeartbeats 4000000 in
set_option maxRecDepth 100000 in
theorem of_main (t : List Nd) (h0 : 0 < t.length) (h64 : t.length ≤ 64) (b o cap : Nat) (hcap : t.length ≤ cap) (hcm : cap ≤ 9223372036854775807) (hbd : BdT t) (w : World) (hN : NdA w b o t) (C : KndW w) :
    Calls Tryz.prog 78 #[.slice (some ⟨b, o, none⟩) t.length cap] w fun e w' => e = .returned (.tuple #[.int .i64 (ofK t).1, .int .i64 (ofK t).2]) ∧ Below w.heap.size w w' := by
  obtain ⟨r1, hr1⟩ : ∃ r, r = (ofK t).1 := ⟨_, rfl⟩
  obtain ⟨r2, hr2⟩ : ∃ r, r = (ofK t).2 := ⟨_, rfl⟩
  rw [← hr1, ← hr2]
  have HR : Hid (r1 = (ofK t).1 ∧ r2 = (ofK t).2) := Lib.hid ⟨hr1, hr2⟩
  have HS := Lib.hid (size_in t (by omega) b o cap hcap hcm 0 h0 w hN C)
  have HN := Lib.hid hN
  have HC := Lib.hid C
  have l0 : ¬ (64 : Int) < (t.length : Int) := by omega
  have l1 : (0 : Int) < (t.length : Int) := by omega
  have hb0 : b < w.heap.size := ltT (hN 0 h0).c0
  have h1000 : t.length ≤ 1000 := by omega
  have H64 : Hid (¬ 64 < t.length) := Lib.hid (by omega)
  clear hN C hr1 hr2 h64
  by_cases hW : WholeT t
  · obtain ⟨w1, w2⟩ := hW.tm
    have HAll := Lib.hid hW.all
    have HW := Lib.hid hW
    have HW1 := Lib.hid w1
    have hS2 := HS.out
    rw [szE_ok w1, w2] at hS2
    have HS2 := Lib.hid hS2
    clear hS2 HS w1 w2 hW
    go_enter Tryz.func78, Tryz.ntmps78
    go_wp2_with fail
    refine HS2.out.mono ?_
    rintro e w1 ⟨rfl, hb1⟩
    have HB1 := Lib.hid hb1
    clear hb1
    go_wp2_with fail
    refine (filled_main t h1000 b o cap hcap hcm hbd w1 (HN.out.keep HB1.out) (HC.out.keep HB1.out)).mono ?_
    rintro e w2 ⟨⟨rf, rfl, hrf⟩, hb2⟩
    have HB2 := Lib.hid (onB HB1.out hb2)
    have HF := Lib.hid hrf
    clear hb2 hrf
    cases rf with
    | false =>
      have HA : Hid (ofK t = (0, 10)) := Lib.hid (by
        unfold ofK
        rw [if_neg H64.out, if_neg (fun h => h HW.out), if_pos (fun h => by have := HF.out.2 h; cases this)])
      go_wp2_with fail
      go_ret2
      exact ⟨ret_twoT (by rw [HR.out.1, HA.out]; rfl) (by rw [HR.out.2, HA.out]; rfl), HB2.out⟩
    | true =>
      go_wp2_with fail
      refine (sorted_main t h1000 b o cap hcap hcm HAll.out w2 (Nat.lt_of_lt_of_le hb0 HB2.out.size) (HN.out.keep HB2.out) (HC.out.keep HB2.out)).mono ?_
      rintro e w3 ⟨⟨rs, rfl, hrs⟩, hb3⟩
      have HB3 := Lib.hid (onB HB2.out hb3)
      have HSr := Lib.hid hrs
      clear hb3 hrs
      cases rs with
      | false =>
        have HA : Hid (ofK t = (0, 14)) := Lib.hid (by
          unfold ofK
          rw [if_neg H64.out, if_neg (fun h => h HW.out), if_neg (fun h => h (HF.out.1 (by first | rfl | trivial))), if_pos (fun h => by have := HSr.out.2 h; cases this)])
        go_wp2_with fail
        go_ret2
        exact ⟨ret_twoT (by rw [HR.out.1, HA.out]; rfl) (by rw [HR.out.2, HA.out]; rfl), HB3.out⟩
      | true =>
        have HD := Lib.hid (depth_ok t h1000 b o cap hcap hcm 0 HW1.out w3 (HN.out.keep HB3.out) (HC.out.keep HB3.out))
        have HO : Hid (ofK t = if 12 < dpA t 0 then (0, 15) else (mkO (opA t 0), 0)) := Lib.hid (by
          unfold ofK
          rw [if_neg H64.out, if_neg (fun h => h HW.out), if_neg (fun h => h (HF.out.1 (by first | rfl | trivial))), if_neg (fun h => h (HSr.out.1 (by first | rfl | trivial)))])
        generalize dpA t 0 = d at *
        by_cases hd : 12 < d
        · have hd' : (12 : Int) < (d : Int) := by omega
          have HA : Hid (ofK t = (0, 15)) := Lib.hid (by rw [HO.out, if_pos hd])
          clear hd
          go_wp2_with fail
          refine HD.out.mono ?_
          rintro e w4 ⟨rfl, hb4⟩
          go_wp2_with fail
          go_ret2
          exact ⟨ret_twoT (by rw [HR.out.1, HA.out]; rfl) (by rw [HR.out.2, HA.out]; rfl), onB HB3.out hb4⟩
        · have hd' : ¬ (12 : Int) < (d : Int) := by omega
          have HA : Hid (ofK t = (mkO (opA t 0), 0)) := Lib.hid (by rw [HO.out, if_neg hd])
          clear hd
          go_wp2_with fail
          refine HD.out.mono ?_
          rintro e w4 ⟨rfl, hb4⟩
          have HB4 := Lib.hid (onB HB3.out hb4)
          have hc := (HN.out.keep HB4.out 0 h0).c0
          have HSo := Lib.hid (tsort_any (opA t 0) w4 (HC.out.keep HB4.out))
          have hop : (t.getD 0 default).op = opA t 0 := rfl
          rw [hop, show o + 0 * 5 = o by omega] at hc
          generalize opA t 0 = op0 at *
          clear hb4 hop
          go_wp2_with fail
          refine HSo.out.mono ?_
          rintro e w5 ⟨rfl, hb5⟩
          go_wp2_with fail
          go_ret2
          exact ⟨ret_twoT (by rw [HR.out.1, HA.out]) (by rw [HR.out.2, HA.out]; rfl), onB HB4.out hb5⟩
  · have HA : Hid (ofK t = (0, 13)) := Lib.hid (by unfold ofK; rw [if_neg H64.out, if_pos hW])
    by_cases hT : TmA t 0
    · have hne : szA t 0 ≠ t.length := fun e => hW (WholeT.of hT e)
      have hS2 := HS.out
      rw [szE_ok hT] at hS2
      have HS2 := Lib.hid hS2
      have hneb : (((szA t 0 : Nat) : Int) == (t.length : Int)) = false := by simp; omega
      clear hS2 HS hW hT hne
      generalize szA t 0 = sz at *
      go_enter Tryz.func78, Tryz.ntmps78
      go_wp2_with fail
      refine HS2.out.mono ?_
      rintro e w1 ⟨rfl, hb1⟩
      go_wp2_with fail
      go_ret2
      exact ⟨ret_twoT (by rw [HR.out.1, HA.out]; rfl) (by rw [HR.out.2, HA.out]; rfl), hb1⟩
    · have hS2 := HS.out
      rw [szE_no hT] at hS2
      have HS2 := Lib.hid hS2
      clear hS2 HS hW hT
      go_enter Tryz.func78, Tryz.ntmps78
      go_wp2_with fail
      refine HS2.out.mono ?_
      rintro e w1 ⟨rfl, hb1⟩
      go_wp2_with fail
      go_ret2
      exact ⟨ret_twoT (by rw [HR.out.1, HA.out]; rfl) (by rw [HR.out.2, HA.out]; rfl), hb1⟩

theorem whole_len {t : List Nd} (h : WholeT t) : 0 < t.length := by
  obtain ⟨h1, _⟩ := h.tm
  exact h1.lt
theorem tof_any (t : List Nd) (hl : t.length ≤ 9223372036854775807) (hbd : BdT t) (v : Value) (w : World) (hv : SlT w v t) (C : KndW w) :
    Calls Tryz.prog 78 #[v] w fun e w' => e = .returned (.tuple #[.int .i64 (ofK t).1, .int .i64 (ofK t).2]) ∧ Below w.heap.size w w' := by
  rcases hv with ⟨rfl, a, cap, rfl⟩ | ⟨h0, b, o, cap, rfl, h2, h3, h4⟩
  · have e : ofK [] = (0, 13) := by
      unfold ofK
      rw [if_neg (by simp), if_pos (fun h => absurd (whole_len h) (by simp))]
    rw [e]
    exact (of_empty a cap w).mono fun e w' ⟨he, hw⟩ => ⟨he, by subst hw; exact Below.refl _ _⟩
  · by_cases h64 : 64 < t.length
    · have e : ofK t = (0, 15) := by unfold ofK; rw [if_pos h64]
      rw [e]
      exact (of_great _ t.length cap h64 hl w).mono fun e w' ⟨he, hw⟩ => ⟨he, by subst hw; exact Below.refl _ _⟩
    · exact of_main t h0 (by omega) b o cap h2 h3 hbd w h4 C

/-- What Check answers. -/
noncomputable def chkK (t : List Nd) : Nat := if (ofK t).2 ≠ 0 then (ofK t).2 else if (ofK t).1 = 2 then 0 else 14
set_option maxHeartbeats 1000000 in
set_option maxRecDepth 100000 in
theorem tcheck_any (t : List Nd) (hl : t.length ≤ 9223372036854775807) (hbd : BdT t) (v : Value) (w : World) (hv : SlT w v t) (C : KndW w) :
    Calls Tryz.prog 49 #[v] w fun e w' => e = .returned (.int .i64 (chkK t)) ∧ Below w.heap.size w w' := by
  have HO := Lib.hid (tof_any t hl hbd v w hv C)
  obtain ⟨r, hr⟩ : ∃ r, r = chkK t := ⟨_, rfl⟩
  rw [← hr]
  have HR : Hid (r = if (ofK t).2 ≠ 0 then (ofK t).2 else if (ofK t).1 = 2 then 0 else 14) := Lib.hid (by rw [hr]; rfl)
  clear hr hv C hbd
  generalize (ofK t).1 = s at *
  generalize (ofK t).2 = e0 at *
  by_cases he : e0 = 0
  · subst he
    by_cases hs : s = 2
    · subst hs
      go_enter Tryz.func49, Tryz.ntmps49
      go_wp2_with fail
      refine HO.out.mono ?_
      rintro e w1 ⟨rfl, hb⟩
      go_wp2_with fail
      go_ret
      exact ⟨by rw [HR.out]; rfl, hb⟩
    · have hb2 : ((s : Int) == 2) = false := by simp; omega
      have HR2 : Hid (r = 14) := Lib.hid (by rw [HR.out, if_neg (by simp), if_neg hs])
      clear hs
      go_enter Tryz.func49, Tryz.ntmps49
      go_wp2_with fail
      refine HO.out.mono ?_
      rintro e w1 ⟨rfl, hb⟩
      go_wp2_with fail
      go_ret
      exact ⟨by rw [HR2.out]; rfl, hb⟩
  · have hb2 : ((e0 : Int) == 0) = false := by simp; omega
    have HR2 : Hid (r = e0) := Lib.hid (by rw [HR.out, if_pos he])
    clear he
    go_enter Tryz.func49, Tryz.ntmps49
    go_wp2_with fail
    refine HO.out.mono ?_
    rintro e w1 ⟨rfl, hb⟩
    go_wp2_with fail
    go_ret
    exact ⟨by rw [HR2.out]; rfl, hb⟩

end Go.Proofs.YtgeneoamngfomaaGreatDoor

namespace Go.Proofs.YtgeneoamngfomaaGreatDoor
open Go.RowKit Go.Lib
set_option linter.unusedVariables false

end Go.Proofs.YtgeneoamngfomaaGreatDoor

namespace Go.Proofs.YtgeneoamngfomaaGreatDoor
open Go.RowKit Go.Lib
set_option linter.unusedVariables false

/-- A sort's sign. -/
def sB (m : Nat) : UInt8 := if m = 1 then 111 else 99
def kidsS (op : Int) : ByteArray := ⟨((kdO op).map sB).toArray⟩
def sortS (op : Int) : ByteArray := if mkO op = 0 then ⟨#[]⟩ else ⟨#[sB (mkO op)]⟩
theorem kidsS_size (op : Int) : (kidsS op).size = cnO op := by
  show ((kdO op).map sB).toArray.size = _
  simp [cnO]

theorem rsort_out (op : Int) (h : op < 1 ∨ 17 < op) : sortS op = ⟨#[]⟩ ∧ kidsS op = ⟨#[]⟩ := by
  have : ixO op = 0 := by
    unfold ixO
    by_cases c : 0 ≤ op ∧ op < 18
    · rw [if_pos c]; omega
    · rw [if_neg c]
  unfold sortS kidsS mkO kdO
  rw [this]; exact ⟨rfl, rfl⟩
theorem rsort_all : ∀ k < 18, 1 ≤ k → mkT.getD k 0 = if k < 9 then 1 else 2 := by decide
theorem rsort_in (op : Int) (h1 : 1 ≤ op) (h2 : op ≤ 17) : sortS op = if op < 9 then ⟨#[111]⟩ else ⟨#[99]⟩ := by
  have e : ixO op = op.toNat := by unfold ixO; rw [if_pos (by omega)]
  have := rsort_all op.toNat (by omega) (by omega)
  have e2 : mkO op = if op.toNat < 9 then 1 else 2 := by unfold mkO; rw [e]; exact this
  unfold sortS
  by_cases c : op < 9
  · have e3 : mkO op = 1 := by rw [e2, if_pos (by omega)]
    rw [if_pos c, e3]; rfl
  · have e3 : mkO op = 2 := by rw [e2, if_neg (by omega)]
    rw [if_neg c, e3]; rfl
set_option maxHeartbeats 1000000 in
theorem rsort_any (op : Int) (w : World) : Calls Tryz.prog 75 #[.int .i64 op] w fun e w' => e = .returned (.string (sortS op)) ∧ w = w' := by
  by_cases h1 : op < 1
  · rw [(rsort_out op (.inl h1)).1]
    go_enter Tryz.func75, Tryz.ntmps75
    go_wp2_with fail
    go_ret
    exact ⟨rfl, rfl⟩
  · have h1' : 1 ≤ op := by omega
    by_cases h2 : 17 < op
    · rw [(rsort_out op (.inr h2)).1]
      go_enter Tryz.func75, Tryz.ntmps75
      go_wp2_with fail
      go_ret
      exact ⟨rfl, rfl⟩
    · have h2' : op ≤ 17 := by omega
      rw [rsort_in op h1' h2']
      by_cases h3 : op < 9
      · rw [if_pos h3]
        go_enter Tryz.func75, Tryz.ntmps75
        go_wp2_with fail
        go_ret
        exact ⟨rfl, rfl⟩
      · rw [if_neg h3]
        have h3' : 9 ≤ op := by omega
        go_enter Tryz.func75, Tryz.ntmps75
        go_wp2_with fail
        go_ret
        exact ⟨rfl, rfl⟩

def kidsA : Array Value := #[.string ⟨#[]⟩, .string ⟨#[]⟩, .string ⟨#[111]⟩, .string ⟨#[111, 111]⟩, .string ⟨#[111, 111]⟩, .string ⟨#[111, 111]⟩, .string ⟨#[111, 111]⟩, .string ⟨#[111, 111]⟩, .string ⟨#[]⟩, .string ⟨#[]⟩, .string ⟨#[99]⟩, .string ⟨#[99, 99]⟩, .string ⟨#[111, 99]⟩, .string ⟨#[99]⟩, .string ⟨#[111, 111, 99, 99]⟩, .string ⟨#[99, 99]⟩, .string ⟨#[99]⟩]
theorem kidsA_at : ∀ j, j < 17 → kidsA[j]? = some (.string ⟨((kdT.getD (j + 1) []).map sB).toArray⟩) := by
  intro j hj
  rcases j with _ | j
  · rfl
  rcases j with _ | j
  · rfl
  rcases j with _ | j
  · rfl
  rcases j with _ | j
  · rfl
  rcases j with _ | j
  · rfl
  rcases j with _ | j
  · rfl
  rcases j with _ | j
  · rfl
  rcases j with _ | j
  · rfl
  rcases j with _ | j
  · rfl
  rcases j with _ | j
  · rfl
  rcases j with _ | j
  · rfl
  rcases j with _ | j
  · rfl
  rcases j with _ | j
  · rfl
  rcases j with _ | j
  · rfl
  rcases j with _ | j
  · rfl
  rcases j with _ | j
  · rfl
  rcases j with _ | j
  · rfl
  omega
set_option maxHeartbeats 1000000 in
set_option maxRecDepth 100000 in
theorem rkids_any (op : Int) (w : World) : Calls Tryz.prog 59 #[.int .i64 op] w fun e w' => e = .returned (.string (kidsS op)) ∧ Below w.heap.size w w' := by
  by_cases h1 : op < 1
  · rw [(rsort_out op (.inl h1)).2]
    go_enter Tryz.func59, Tryz.ntmps59
    go_wp2_with fail
    go_ret
    exact ⟨rfl, Below.refl _ _⟩
  · have h1' : 1 ≤ op := by omega
    by_cases h2 : 17 < op
    · rw [(rsort_out op (.inr h2)).2]
      go_enter Tryz.func59, Tryz.ntmps59
      go_wp2_with fail
      go_ret
      exact ⟨rfl, Below.refl _ _⟩
    · have h2' : op ≤ 17 := by omega
      obtain ⟨j, hj⟩ : ∃ j : Nat, op - 1 = (j : Int) := ⟨(op - 1).toNat, by omega⟩
      have hj17 : j < 17 := by omega
      have e : kidsS op = ⟨((kdT.getD (j + 1) []).map sB).toArray⟩ := by
        have e : ixO op = j + 1 := by unfold ixO; rw [if_pos (by omega)]; omega
        unfold kidsS kdO
        rw [e]
      have hc : (w.alloc (.cells kidsA 9)).cell? ⟨w.heap.size, j, none⟩ = some (.string (kidsS op)) := by
        rw [World.cell?_alloc_at _ _ _ _ rfl, e]; exact kidsA_at j hj17
      have j0 : (0 : Int) ≤ (j : Int) := by omega
      have j1 : (j : Int) < 17 := by omega
      have HB := Lib.hid (newB w (.cells kidsA 9))
      unfold kidsA at hc HB
      generalize kidsS op = ks at *
      clear e
      go_enter Tryz.func59, Tryz.ntmps59
      go_wp2_with fail
      go_ret
      exact ⟨rfl, HB.out⟩

theorem kids_cut_all : ∀ k < 18, ∀ i < 4, i < (kdT.getD k []).length → (⟨((kdT.getD k []).map sB).toArray⟩ : ByteArray).extract i (i + 1) = ⟨#[sB (kdC k i)]⟩ := by decide
theorem kids_cut (op : Int) (i : Nat) (h : i < cnO op) : (kidsS op).extract i (i + 1) = ⟨#[sB (kdC (ixO op) i)]⟩ :=
  kids_cut_all (ixO op) (ixO_lt op) i (by have := cn_le op; omega) h
theorem kd_in (op : Int) (i : Nat) (h : i < cnO op) : kdC (ixO op) i ≠ 0 ∧ kdC (ixO op) i ≤ 2 :=
  (kd_all (ixO op) (ixO_lt op) i (by have := cn_le op; omega)).1 h

end Go.Proofs.YtgeneoamngfomaaGreatDoor

namespace Go.Proofs.YtgeneoamngfomaaGreatDoor
open Go.RowKit Go.Lib
set_option linter.unusedVariables false

theorem sortS_cases (op : Int) : (mkO op = 0 ∧ sortS op = ⟨#[]⟩) ∨ (mkO op ≠ 0 ∧ sortS op = ⟨#[111]⟩) ∨ (mkO op ≠ 0 ∧ sortS op = ⟨#[99]⟩) := by
  unfold sortS
  by_cases h : mkO op = 0
  · exact .inl ⟨h, if_pos h⟩
  · rw [if_neg h]
    have := mk_le op
    have h2 : mkO op = 1 ∨ mkO op = 2 := by omega
    rcases h2 with e | e
    · exact .inr (.inl ⟨h, by rw [e]; rfl⟩)
    · exact .inr (.inr ⟨h, by rw [e]; rfl⟩)

set_option maxHeartbeats 2000000 in
set_option maxRecDepth 100000 in
theorem rszT_any (t : List Nd) (hL : t.length ≤ 1000) (b o cap : Nat) (hcap : t.length ≤ cap) (p : Nat) (hp : p < t.length) (w : World) (hN : NdA w b o t) :
    Calls Tryz.prog 60 #[.slice (some ⟨b, o, none⟩) t.length cap, .int .i64 p] w fun e w' => e = .returned (.int .i64 (szE t p).1) ∧ Below w.heap.size w w' := by
  have HN := Lib.hid hN
  obtain ⟨r1, hr1⟩ : ∃ r, r = (szE t p).1 := ⟨_, rfl⟩
  rw [← hr1]
  have HR := Lib.hid hr1
  clear hN hr1
  go_enter Tryz.func60, Tryz.ntmps60
  go_wp2_with fail
  go_loopw [5, 6] (fun vq vi wx => ∃ q i : Nat, p + i ≤ t.length ∧ q ≤ 1 + 4 * i ∧ vi = .int .i64 i ∧ vq = .int .i64 q ∧ scan 1 (t.drop p) = (scan q (t.drop (p + i))).map (i + ·) ∧ Below w.heap.size w wx) (fun _ vi _ => t.length + 1 - (RowKit.intOf vi).toNat)
  case atStart => exact ⟨1, 0, by omega, by omega, rfl, rfl, by simp, Below.refl _ _⟩
  case round =>
    obtain ⟨q, i, hi, hq, rfl, rfl, hsc, hb⟩ := hrel
    have HS := Lib.hid hsc
    have HB := Lib.hid hb
    have q0 : (q : Int) ≤ 1000000 := by omega
    have i9 : (p : Int) + (i : Int) ≤ 1000 := by omega
    have i8 : (0 : Int) ≤ (p : Int) + (i : Int) := by omega
    by_cases hz : q = 0
    · subst hz
      have HA : Hid ((szE t p).1 = i) := Lib.hid (by unfold szE; rw [HS.out, scan_zero]; rfl)
      clear hsc hb
      go_wp2_with fail
      go_ret
      exact ⟨by rw [HR.out, HA.out]; rfl, HB.out⟩
    · have hq0 : (0 : Int) < (q : Int) := by omega
      obtain ⟨q', rfl⟩ : ∃ q', q = q' + 1 := ⟨q - 1, by omega⟩
      by_cases hlt : p + i < t.length
      · have i1 : ¬ (t.length : Int) ≤ (p : Int) + (i : Int) := by omega
        have i2 : (p : Int) + (i : Int) < (t.length : Int) := by omega
        have hn : ((p : Int) + (i : Int)).toNat = p + i := by omega
        have hnc := (HN.out.keep hb) (p + i) hlt
        obtain ⟨nd, hnd⟩ : ∃ nd, nd = t.getD (p + i) default := ⟨_, rfl⟩
        rw [← hnd] at hnc
        have HD : Hid (t.drop (p + i) = nd :: t.drop (p + i + 1)) := Lib.hid (by rw [hnd]; exact drop_cons hlt)
        have e0 := hnc.c0
        have HRS := Lib.hid (fun w => rsort_any nd.op w)
        have HRK := Lib.hid (fun w => rkids_any nd.op w)
        have hks := kidsS_size nd.op
        have hcn := cn_le nd.op
        generalize kidsS nd.op = ks at *
        clear hsc hb hnd hnc hz
        rcases sortS_cases nd.op with ⟨hm, hs⟩ | ⟨hm, hs⟩ | ⟨hm, hs⟩
        · rw [hs] at HRS
          have HA : Hid ((szE t p).1 = 0) := Lib.hid (by unfold szE; rw [HS.out, HD.out, scan_bad hm]; rfl)
          clear hs hm
          go_wp2_with fail
          refine (HRS.out _).mono ?_
          rintro e w1 ⟨rfl, rfl⟩
          go_wp2_with fail
          go_ret
          exact ⟨by rw [HR.out, HA.out]; rfl, HB.out⟩
        all_goals
          rw [hs] at HRS
          have HSt : Hid (scan (q' + 1) (t.drop (p + i)) = (scan (q' + cnO nd.op) (t.drop (p + i + 1))).map (· + 1)) := Lib.hid (by rw [HD.out, scan_cons hm])
          clear hs hm
          generalize cnO nd.op = c at *
          go_wp2_with fail
          refine (HRS.out _).mono ?_
          rintro e w1 ⟨rfl, rfl⟩
          go_wp2_with fail
          refine (HRK.out _).mono ?_
          rintro e w1 ⟨rfl, hb1⟩
          have HB1 := Lib.hid (onB HB.out hb1)
          clear hb1
          go_wp2_with fail
          go_roundw
          case rel => exact ⟨q' + c, i + 1, by omega, by omega, by go_num, by go_num, by rw [HS.out, HSt.out, show p + (i + 1) = p + i + 1 by omega]; cases scan (q' + c) (t.drop (p + i + 1)) <;> simp <;> omega, HB1.out⟩
          case measure => simp [RowKit.intOf]; omega
      · have i1 : (t.length : Int) ≤ (p : Int) + (i : Int) := by omega
        have HA : Hid ((szE t p).1 = 0) := Lib.hid (by unfold szE; rw [HS.out, show p + i = t.length by omega, List.drop_length]; rfl)
        clear hsc hb hz
        go_wp2_with fail
        go_ret
        exact ⟨by rw [HR.out, HA.out]; rfl, HB.out⟩

set_option maxHeartbeats 4000000 in
set_option maxRecDepth 100000 in
theorem rblT_any (t : List Nd) (hL : t.length ≤ 1000) (b o cap p : Nat) (hcap : t.length ≤ cap) (hT : TmA t p) (w : World) (hN : NdA w b o t) :
    Calls Tryz.prog 30 #[.slice (some ⟨b, o, none⟩) t.length cap, .int .i64 p] w fun e w' => ∃ v, e = .returned v ∧ YtgeneoamngfomaaGreatDoor.Own w' w.heap.size v (plL t p (cnO (opA t p))) ∧ Below w.heap.size w w' := by
  have hp := hT.lt
  have HN := Lib.hid hN
  have HT := Lib.hid hT
  obtain ⟨i0, hi0, hz0, hz1, hz2⟩ := info_parts infoIT
  have hnc := hN p hp
  obtain ⟨nd, hnd⟩ : ∃ nd, nd = t.getD p default := ⟨_, rfl⟩
  rw [← hnd] at hnc
  have HOp : Hid (opA t p = nd.op) := Lib.hid (by rw [hnd]; rfl)
  have HNd := Lib.hid hnd
  have HRK := Lib.hid (fun w => rkids_any nd.op w)
  have hks := kidsS_size nd.op
  have hcn := cn_le nd.op
  obtain ⟨c, hc⟩ : ∃ c, c = cnO (opA t p) := ⟨_, rfl⟩
  have hc2 : cnO nd.op = c := by rw [hc, HOp.out]
  rw [hc2] at hks hcn
  rw [← hc]
  have HKid : Hid (∀ i, i < c → TmA t (plA t (p + 1) i) ∧ p < plA t (p + 1) i ∧ plA t (p + 1) i + szA t (plA t (p + 1) i) ≤ p + szA t p) := Lib.hid (fun i hi => hT.kid (by rw [← hc]; exact hi))
  have hbd := hT.bd
  generalize kidsS nd.op = ks at *
  have hp0 : (0 : Int) ≤ (p : Int) := by omega
  have hp1 : (p : Int) < (t.length : Int) := by omega
  have hp2 : (p : Int) ≤ 1000 := by omega
  clear hN hT hnd hnc hc2 hc
  go_enter Tryz.func30, Tryz.ntmps30
  go_wp2_with fail
  go_loopw [5, 6, 7] (fun vo vk vi wx => ∃ i : Nat, i ≤ c ∧ vi = .int .i64 i ∧ vk = .int .i64 (plA t (p + 1) i) ∧ YtgeneoamngfomaaGreatDoor.Own wx w.heap.size vo (plL t p i) ∧ Below w.heap.size w wx) (fun _ _ vi _ => c - (RowKit.intOf vi).toNat)
  case atStart => exact ⟨0, Nat.zero_le _, rfl, rfl, YtgeneoamngfomaaGreatDoor.Own.nil _ _, Below.refl _ _⟩
  case round =>
    obtain ⟨i, hi, rfl, rfl, hown, hb⟩ := hrel
    have HB := Lib.hid hb
    have hnc := (HN.out.keep hb) p hp
    rw [← HNd.out] at hnc
    have e0 := hnc.c0
    have HO := Lib.hid hown
    clear hb hnc hown
    by_cases hlt : i < c
    · have j0 : (i : Int) < (c : Int) := by omega
      go_wp2_with fail
      refine (HRK.out _).mono ?_
      rintro e w1 ⟨rfl, hb1⟩
      have HB1 := Lib.hid (onB HB.out hb1)
      have hown := HO.out.grown hb1
      have hpl := plL_len t p i
      have HPl := Lib.hid hpl
      have hs1 := HB1.out.size
      have h63 : (plL t p i).length + 1 ≤ maxLen := by unfold maxLen; omega
      have hby : ((plL t p i).length + 1) * 8 ≤ 140737488355328 := by omega
      go_wp2_with (at_builtin; refine wpList_append_own _ rfl _ _ 83 rfl w.heap.size 3 i0 (.int .i64 0) 1 8 Tryz.underlying83 hi0 hz0 hz1 hz2 rfl (by decide) _ _ _ rfl (hown.alloc _) ⟨w1.heap.size, 0, none⟩ 1 1 [.int .i64 ((plA t (p + 1) i : Nat) : Int)] rfl rfl (one_cell w1 _ _) (one_one _) h63 hby (by simp; omega) ?_; intro v' w2 hown' hgrow _)
      have HO2 := Lib.hid (own_snoc hown')
      have HB2 := Lib.hid (below_append HB1.out hown (Nat.le_refl _) hs1 hgrow)
      obtain ⟨tk, hin, hend⟩ := HKid.out i hlt
      have hS := rszT_any t hL b o cap hcap (plA t (p + 1) i) tk.lt w2 (HN.out.keep HB2.out)
      rw [szE_ok tk] at hS
      have HS := Lib.hid hS
      have HPl : Hid (plA t (p + 1) (i + 1) = plA t (p + 1) i + szA t (plA t (p + 1) i)) := Lib.hid rfl
      have HLs : Hid (plL t p (i + 1) = plL t p i ++ [((plA t (p + 1) i : Nat) : Int)]) := Lib.hid (uptoT_succ _ _)
      have m1 : ((plA t (p + 1) i : Nat) : Int) + ((szA t (plA t (p + 1) i) : Nat) : Int) ≤ 1000 := by omega
      have m2 : (0 : Int) ≤ ((plA t (p + 1) i : Nat) : Int) := by omega
      have m3 : (0 : Int) ≤ ((szA t (plA t (p + 1) i) : Nat) : Int) := by omega
      generalize szA t (plA t (p + 1) i) = sz at *
      clear hS hown' hgrow hown tk hin hend hb1 hpl hs1
      refine HS.out.mono ?_
      rintro e w3 ⟨rfl, hb3⟩
      have HB3 := Lib.hid (onB HB2.out hb3)
      have HO3 := Lib.hid (HO2.out.grown hb3)
      clear hb3
      go_wp2_with fail
      go_roundw
      case rel => exact ⟨i + 1, by omega, by go_num, by rw [HPl.out]; go_num, by rw [HLs.out]; exact HO3.out, HB3.out⟩
      case measure => simp [RowKit.intOf]; omega
    · obtain rfl : i = c := by omega
      go_wp2_with fail
      refine (HRK.out _).mono ?_
      rintro e w1 ⟨rfl, hb1⟩
      go_wp2_with fail
      go_ret
      exact ⟨_, rfl, HO.out.grown hb1, onB HB.out hb1⟩

theorem own_len {w : World} {base : Nat} {v : Value} {l : List Int} (h : YtgeneoamngfomaaGreatDoor.Own w base v l) : ∃ a cap, v = .slice a l.length cap := by
  rcases h.reads with ⟨rfl, rfl⟩ | ⟨g, cap, rfl, _⟩
  · exact ⟨_, _, rfl⟩
  · exact ⟨_, _, rfl⟩
end Go.Proofs.YtgeneoamngfomaaGreatDoor

namespace Go.Proofs.YtgeneoamngfomaaGreatDoor
open Go.RowKit Go.Lib
set_option linter.unusedVariables false

end Go.Proofs.YtgeneoamngfomaaGreatDoor

namespace Go.Proofs.YtgeneoamngfomaaGreatDoor
open Go.RowKit Go.Lib
set_option linter.unusedVariables false

def wiB (n m : Int) : Bool := decide (0 ≤ n ∧ n ≤ m)
theorem within_any (n m : Int) (w : World) : Calls Tryz.prog 109 #[.int .i64 n, .int .i64 m] w fun e w' => e = .returned (.bool (wiB n m)) ∧ w = w' := by
  by_cases h0 : 0 ≤ n
  · by_cases h1 : n ≤ m
    · have e : wiB n m = true := by unfold wiB; simp; omega
      rw [e]
      clear e
      go_enter Tryz.func109, Tryz.ntmps109
      go_wp2_with fail
      go_ret
      exact ⟨ret_boolT (by first | rfl | simp [*]), rfl⟩
    · have e : wiB n m = false := by unfold wiB; simp; omega
      rw [e]
      have h1' : ¬ n ≤ m := h1
      clear e
      go_enter Tryz.func109, Tryz.ntmps109
      go_wp2_with fail
      go_ret
      exact ⟨ret_boolT (by first | rfl | simp [*]), rfl⟩
  · have e : wiB n m = false := by unfold wiB; simp; omega
    rw [e]
    have h0' : n < 0 := by omega
    clear e
    go_enter Tryz.func109, Tryz.ntmps109
    go_wp2_with fail
    go_ret
    exact ⟨ret_boolT (by first | rfl | simp [*]), rfl⟩

theorem fldO_one {n : Nd} (h : n.op = 1) : fldO n = (decide (n.a = 0) && decide (n.b = 0) && decide (chkE n.num n.den = 0)) := by
  have e : ixO n.op = 1 := by rw [h]; rfl
  unfold fldO
  rw [e]
  have h1 : fldA 1 n = decide (n.a = 0) := by
    unfold fldA
    rw [show ((maN 1 : Nat) : Int) = 0 from rfl, decide_eq_decide]; omega
  have h2 : fldB 1 n = decide (n.b = 0) := by
    unfold fldB
    rw [show ((mbN 1 : Nat) : Int) = 0 from rfl, decide_eq_decide]; omega
  have h3 : fldV 1 n = decide (chkE n.num n.den = 0) := by unfold fldV; rw [if_pos rfl]
  rw [h1, h2, h3]
theorem fldO_else {n : Nd} {k : Nat} (e : ixO n.op = k) (hk : k ≠ 1) : fldO n = (wiB n.a (maN k) && wiB n.b (mbN k) && decide (n.num = 0 ∧ n.den = 0)) := by
  unfold fldO
  rw [e]
  have h3 : fldV k n = decide (n.num = 0 ∧ n.den = 0) := by unfold fldV; rw [if_neg hk]
  rw [h3]; rfl
theorem wiB_zero (n : Int) : wiB n 0 = decide (n = 0) := by
  unfold wiB
  rw [decide_eq_decide]; omega
theorem ma_zero : ∀ k < 18, ¬ (k = 2 ∨ k = 10 ∨ k = 14 ∨ k = 16 ∨ k = 17) → maN k = 0 := by decide
theorem mb_zero : ∀ k < 18, ¬ k = 17 → mbN k = 0 := by decide

set_option maxHeartbeats 4000000 in
set_option maxRecDepth 100000 in
theorem rfields_one (a b num den : Int) (hn : I64T num) (hd : I64T den) (w : World) :
    Calls Tryz.prog 74 #[.agg #[.int .i64 1, .int .i64 a, .int .i64 b, .int .i64 num, .int .i64 den]] w fun e w' => e = .returned (.bool (decide (a = 0) && decide (b = 0) && decide (chkE num den = 0))) ∧ Below w.heap.size w w' := by
  obtain ⟨r, hr⟩ : ∃ r, r = (decide (a = 0) && decide (b = 0) && decide (chkE num den = 0)) := ⟨_, rfl⟩
  rw [← hr]
  have HR := Lib.hid hr
  have HB := Lib.hid (fun o => newB w o)
  clear hr
  by_cases ha : a = 0
  · subst ha
    by_cases hb : b = 0
    · subst hb
      by_cases hn0 : num = 0
      · subst hn0
        by_cases hd0 : den = 0
        · subst hd0
          have HCk := Lib.hid (fun w => rcheck_any _ _ w hn.1 hn.2 hd.1 hd.2)
          generalize hce : chkE _ _ = ce at HCk
          have HCe := Lib.hid hce
          clear hce hn hd
          go_enter Tryz.func74, Tryz.ntmps74
          go_wp2_with fail
          refine (HCk.out _).mono ?_
          rintro e w1 ⟨rfl, hb1⟩
          have HB1 := Lib.hid (onB (HB.out _) hb1)
          clear hb1
          go_wp2_with fail
          go_ret
          exact ⟨ret_boolT (by rw [HR.out, HCe.out, Bool.eq_iff_iff]; simp), HB1.out⟩
        · have hdb : (den == 0) = false := by simpa using hd0
          have HCk := Lib.hid (fun w => rcheck_any _ _ w hn.1 hn.2 hd.1 hd.2)
          generalize hce : chkE _ _ = ce at HCk
          have HCe := Lib.hid hce
          clear hce hn hd
          go_enter Tryz.func74, Tryz.ntmps74
          go_wp2_with fail
          refine (HCk.out _).mono ?_
          rintro e w1 ⟨rfl, hb1⟩
          have HB1 := Lib.hid (onB (HB.out _) hb1)
          clear hb1
          go_wp2_with fail
          go_ret
          exact ⟨ret_boolT (by rw [HR.out, HCe.out, Bool.eq_iff_iff]; simp), HB1.out⟩
      · have hnb : (num == 0) = false := by simpa using hn0
        have HCk := Lib.hid (fun w => rcheck_any _ _ w hn.1 hn.2 hd.1 hd.2)
        generalize hce : chkE _ _ = ce at HCk
        have HCe := Lib.hid hce
        clear hce hn hd
        go_enter Tryz.func74, Tryz.ntmps74
        go_wp2_with fail
        refine (HCk.out _).mono ?_
        rintro e w1 ⟨rfl, hb1⟩
        have HB1 := Lib.hid (onB (HB.out _) hb1)
        clear hb1
        go_wp2_with fail
        go_ret
        exact ⟨ret_boolT (by rw [HR.out, HCe.out, Bool.eq_iff_iff]; simp), HB1.out⟩
    · have hbb : (b == 0) = false := by simpa using hb
      have HN := Lib.hid hb
      clear hb hn hd
      by_cases hn0 : num = 0
      · subst hn0
        by_cases hd0 : den = 0
        · subst hd0
          go_enter Tryz.func74, Tryz.ntmps74
          go_wp2_with fail
          go_ret
          exact ⟨ret_boolT (by rw [HR.out, decide_eq_false HN.out]; simp), HB.out _⟩
        · have hdb : (den == 0) = false := by simpa using hd0
          go_enter Tryz.func74, Tryz.ntmps74
          go_wp2_with fail
          go_ret
          exact ⟨ret_boolT (by rw [HR.out, decide_eq_false HN.out]; simp), HB.out _⟩
      · have hnb : (num == 0) = false := by simpa using hn0
        go_enter Tryz.func74, Tryz.ntmps74
        go_wp2_with fail
        go_ret
        exact ⟨ret_boolT (by rw [HR.out, decide_eq_false HN.out]; simp), HB.out _⟩
  · have hbb : (a == 0) = false := by simpa using ha
    have HN := Lib.hid ha
    clear ha hn hd
    by_cases hn0 : num = 0
    · subst hn0
      by_cases hd0 : den = 0
      · subst hd0
        go_enter Tryz.func74, Tryz.ntmps74
        go_wp2_with fail
        go_ret
        exact ⟨ret_boolT (by rw [HR.out, decide_eq_false HN.out]; simp), HB.out _⟩
      · have hdb : (den == 0) = false := by simpa using hd0
        go_enter Tryz.func74, Tryz.ntmps74
        go_wp2_with fail
        go_ret
        exact ⟨ret_boolT (by rw [HR.out, decide_eq_false HN.out]; simp), HB.out _⟩
    · have hnb : (num == 0) = false := by simpa using hn0
      go_enter Tryz.func74, Tryz.ntmps74
      go_wp2_with fail
      go_ret
      exact ⟨ret_boolT (by rw [HR.out, decide_eq_false HN.out]; simp), HB.out _⟩
set_option maxHeartbeats 4000000 in
set_option maxRecDepth 100000 in
theorem rfields_fix (a b num den : Int) (w : World) :
    Calls Tryz.prog 74 #[.agg #[.int .i64 2, .int .i64 a, .int .i64 b, .int .i64 num, .int .i64 den]] w fun e w' => e = .returned (.bool (wiB a 63 && decide (b = 0) && decide (num = 0 ∧ den = 0))) ∧ Below w.heap.size w w' := by
  obtain ⟨r, hr⟩ : ∃ r, r = (wiB a 63 && decide (b = 0) && decide (num = 0 ∧ den = 0)) := ⟨_, rfl⟩
  rw [← hr]
  have HR := Lib.hid hr
  have HB := Lib.hid (fun o => newB w o)
  have HWi := Lib.hid (fun w => within_any a 63 w)
  clear hr
  generalize wiB a 63 = x at *
  by_cases hn0 : num = 0
  · subst hn0
    by_cases hd0 : den = 0
    · subst hd0
      cases x with
      | true =>
        by_cases hb : b = 0
        · subst hb
          go_enter Tryz.func74, Tryz.ntmps74
          go_wp2_with fail
          refine (HWi.out _).mono ?_
          rintro e w1 ⟨rfl, rfl⟩
          go_wp2_with fail
          go_ret
          exact ⟨ret_boolT (by rw [HR.out]; simp), HB.out _⟩
        · have hbb : (b == 0) = false := by simpa using hb
          have HN := Lib.hid hb
          clear hb
          go_enter Tryz.func74, Tryz.ntmps74
          go_wp2_with fail
          refine (HWi.out _).mono ?_
          rintro e w1 ⟨rfl, rfl⟩
          go_wp2_with fail
          go_ret
          exact ⟨ret_boolT (by rw [HR.out, decide_eq_false HN.out]; simp), HB.out _⟩
      | false =>
        go_enter Tryz.func74, Tryz.ntmps74
        go_wp2_with fail
        refine (HWi.out _).mono ?_
        rintro e w1 ⟨rfl, rfl⟩
        go_wp2_with fail
        go_ret
        exact ⟨ret_boolT (by rw [HR.out]; simp), HB.out _⟩
    · have hdb : (den == 0) = false := by simpa using hd0
      have HN : Hid (¬ ((0 : Int) = 0 ∧ den = 0)) := Lib.hid (fun h => hd0 h.2)
      go_enter Tryz.func74, Tryz.ntmps74
      go_wp2_with fail
      go_ret
      exact ⟨ret_boolT (by rw [HR.out, decide_eq_false HN.out]; simp), HB.out _⟩
  · have hnb : (num == 0) = false := by simpa using hn0
    have HN : Hid (¬ (num = 0 ∧ den = 0)) := Lib.hid (fun h => hn0 h.1)
    go_enter Tryz.func74, Tryz.ntmps74
    go_wp2_with fail
    go_ret
    exact ⟨ret_boolT (by rw [HR.out, decide_eq_false HN.out]; simp), HB.out _⟩
set_option maxHeartbeats 4000000 in
set_option maxRecDepth 100000 in
theorem rfields_or (a b num den : Int) (w : World) :
    Calls Tryz.prog 74 #[.agg #[.int .i64 16, .int .i64 a, .int .i64 b, .int .i64 num, .int .i64 den]] w fun e w' => e = .returned (.bool (wiB a 63 && decide (b = 0) && decide (num = 0 ∧ den = 0))) ∧ Below w.heap.size w w' := by
  obtain ⟨r, hr⟩ : ∃ r, r = (wiB a 63 && decide (b = 0) && decide (num = 0 ∧ den = 0)) := ⟨_, rfl⟩
  rw [← hr]
  have HR := Lib.hid hr
  have HB := Lib.hid (fun o => newB w o)
  have HWi := Lib.hid (fun w => within_any a 63 w)
  clear hr
  generalize wiB a 63 = x at *
  by_cases hn0 : num = 0
  · subst hn0
    by_cases hd0 : den = 0
    · subst hd0
      cases x with
      | true =>
        by_cases hb : b = 0
        · subst hb
          go_enter Tryz.func74, Tryz.ntmps74
          go_wp2_with fail
          refine (HWi.out _).mono ?_
          rintro e w1 ⟨rfl, rfl⟩
          go_wp2_with fail
          go_ret
          exact ⟨ret_boolT (by rw [HR.out]; simp), HB.out _⟩
        · have hbb : (b == 0) = false := by simpa using hb
          have HN := Lib.hid hb
          clear hb
          go_enter Tryz.func74, Tryz.ntmps74
          go_wp2_with fail
          refine (HWi.out _).mono ?_
          rintro e w1 ⟨rfl, rfl⟩
          go_wp2_with fail
          go_ret
          exact ⟨ret_boolT (by rw [HR.out, decide_eq_false HN.out]; simp), HB.out _⟩
      | false =>
        go_enter Tryz.func74, Tryz.ntmps74
        go_wp2_with fail
        refine (HWi.out _).mono ?_
        rintro e w1 ⟨rfl, rfl⟩
        go_wp2_with fail
        go_ret
        exact ⟨ret_boolT (by rw [HR.out]; simp), HB.out _⟩
    · have hdb : (den == 0) = false := by simpa using hd0
      have HN : Hid (¬ ((0 : Int) = 0 ∧ den = 0)) := Lib.hid (fun h => hd0 h.2)
      go_enter Tryz.func74, Tryz.ntmps74
      go_wp2_with fail
      go_ret
      exact ⟨ret_boolT (by rw [HR.out, decide_eq_false HN.out]; simp), HB.out _⟩
  · have hnb : (num == 0) = false := by simpa using hn0
    have HN : Hid (¬ (num = 0 ∧ den = 0)) := Lib.hid (fun h => hn0 h.1)
    go_enter Tryz.func74, Tryz.ntmps74
    go_wp2_with fail
    go_ret
    exact ⟨ret_boolT (by rw [HR.out, decide_eq_false HN.out]; simp), HB.out _⟩
set_option maxHeartbeats 4000000 in
set_option maxRecDepth 100000 in
theorem rfields_cur (a b num den : Int) (w : World) :
    Calls Tryz.prog 74 #[.agg #[.int .i64 10, .int .i64 a, .int .i64 b, .int .i64 num, .int .i64 den]] w fun e w' => e = .returned (.bool (wiB a 7 && decide (b = 0) && decide (num = 0 ∧ den = 0))) ∧ Below w.heap.size w w' := by
  obtain ⟨r, hr⟩ : ∃ r, r = (wiB a 7 && decide (b = 0) && decide (num = 0 ∧ den = 0)) := ⟨_, rfl⟩
  rw [← hr]
  have HR := Lib.hid hr
  have HB := Lib.hid (fun o => newB w o)
  have HWi := Lib.hid (fun w => within_any a 7 w)
  clear hr
  generalize wiB a 7 = x at *
  by_cases hn0 : num = 0
  · subst hn0
    by_cases hd0 : den = 0
    · subst hd0
      cases x with
      | true =>
        by_cases hb : b = 0
        · subst hb
          go_enter Tryz.func74, Tryz.ntmps74
          go_wp2_with fail
          refine (HWi.out _).mono ?_
          rintro e w1 ⟨rfl, rfl⟩
          go_wp2_with fail
          go_ret
          exact ⟨ret_boolT (by rw [HR.out]; simp), HB.out _⟩
        · have hbb : (b == 0) = false := by simpa using hb
          have HN := Lib.hid hb
          clear hb
          go_enter Tryz.func74, Tryz.ntmps74
          go_wp2_with fail
          refine (HWi.out _).mono ?_
          rintro e w1 ⟨rfl, rfl⟩
          go_wp2_with fail
          go_ret
          exact ⟨ret_boolT (by rw [HR.out, decide_eq_false HN.out]; simp), HB.out _⟩
      | false =>
        go_enter Tryz.func74, Tryz.ntmps74
        go_wp2_with fail
        refine (HWi.out _).mono ?_
        rintro e w1 ⟨rfl, rfl⟩
        go_wp2_with fail
        go_ret
        exact ⟨ret_boolT (by rw [HR.out]; simp), HB.out _⟩
    · have hdb : (den == 0) = false := by simpa using hd0
      have HN : Hid (¬ ((0 : Int) = 0 ∧ den = 0)) := Lib.hid (fun h => hd0 h.2)
      go_enter Tryz.func74, Tryz.ntmps74
      go_wp2_with fail
      go_ret
      exact ⟨ret_boolT (by rw [HR.out, decide_eq_false HN.out]; simp), HB.out _⟩
  · have hnb : (num == 0) = false := by simpa using hn0
    have HN : Hid (¬ (num = 0 ∧ den = 0)) := Lib.hid (fun h => hn0 h.1)
    go_enter Tryz.func74, Tryz.ntmps74
    go_wp2_with fail
    go_ret
    exact ⟨ret_boolT (by rw [HR.out, decide_eq_false HN.out]; simp), HB.out _⟩
set_option maxHeartbeats 4000000 in
set_option maxRecDepth 100000 in
theorem rfields_when (a b num den : Int) (w : World) :
    Calls Tryz.prog 74 #[.agg #[.int .i64 14, .int .i64 a, .int .i64 b, .int .i64 num, .int .i64 den]] w fun e w' => e = .returned (.bool (wiB a 73048 && decide (b = 0) && decide (num = 0 ∧ den = 0))) ∧ Below w.heap.size w w' := by
  obtain ⟨r, hr⟩ : ∃ r, r = (wiB a 73048 && decide (b = 0) && decide (num = 0 ∧ den = 0)) := ⟨_, rfl⟩
  rw [← hr]
  have HR := Lib.hid hr
  have HB := Lib.hid (fun o => newB w o)
  have HWi := Lib.hid (fun w => within_any a 73048 w)
  clear hr
  generalize wiB a 73048 = x at *
  by_cases hn0 : num = 0
  · subst hn0
    by_cases hd0 : den = 0
    · subst hd0
      cases x with
      | true =>
        by_cases hb : b = 0
        · subst hb
          go_enter Tryz.func74, Tryz.ntmps74
          go_wp2_with fail
          refine (HWi.out _).mono ?_
          rintro e w1 ⟨rfl, rfl⟩
          go_wp2_with fail
          go_ret
          exact ⟨ret_boolT (by rw [HR.out]; simp), HB.out _⟩
        · have hbb : (b == 0) = false := by simpa using hb
          have HN := Lib.hid hb
          clear hb
          go_enter Tryz.func74, Tryz.ntmps74
          go_wp2_with fail
          refine (HWi.out _).mono ?_
          rintro e w1 ⟨rfl, rfl⟩
          go_wp2_with fail
          go_ret
          exact ⟨ret_boolT (by rw [HR.out, decide_eq_false HN.out]; simp), HB.out _⟩
      | false =>
        go_enter Tryz.func74, Tryz.ntmps74
        go_wp2_with fail
        refine (HWi.out _).mono ?_
        rintro e w1 ⟨rfl, rfl⟩
        go_wp2_with fail
        go_ret
        exact ⟨ret_boolT (by rw [HR.out]; simp), HB.out _⟩
    · have hdb : (den == 0) = false := by simpa using hd0
      have HN : Hid (¬ ((0 : Int) = 0 ∧ den = 0)) := Lib.hid (fun h => hd0 h.2)
      go_enter Tryz.func74, Tryz.ntmps74
      go_wp2_with fail
      go_ret
      exact ⟨ret_boolT (by rw [HR.out, decide_eq_false HN.out]; simp), HB.out _⟩
  · have hnb : (num == 0) = false := by simpa using hn0
    have HN : Hid (¬ (num = 0 ∧ den = 0)) := Lib.hid (fun h => hn0 h.1)
    go_enter Tryz.func74, Tryz.ntmps74
    go_wp2_with fail
    go_ret
    exact ⟨ret_boolT (by rw [HR.out, decide_eq_false HN.out]; simp), HB.out _⟩

end Go.Proofs.YtgeneoamngfomaaGreatDoor

namespace Go.Proofs.YtgeneoamngfomaaGreatDoor
open Go.RowKit Go.Lib
set_option linter.unusedVariables false

set_option maxHeartbeats 4000000 in
set_option maxRecDepth 100000 in
theorem rfields_an (a b num den : Int) (w : World) :
    Calls Tryz.prog 74 #[.agg #[.int .i64 17, .int .i64 a, .int .i64 b, .int .i64 num, .int .i64 den]] w fun e w' => e = .returned (.bool (wiB a 63 && wiB b 73048 && decide (num = 0 ∧ den = 0))) ∧ Below w.heap.size w w' := by
  obtain ⟨r, hr⟩ : ∃ r, r = (wiB a 63 && wiB b 73048 && decide (num = 0 ∧ den = 0)) := ⟨_, rfl⟩
  rw [← hr]
  have HR := Lib.hid hr
  have HB := Lib.hid (fun o => newB w o)
  have HWa := Lib.hid (fun w => within_any a 63 w)
  have HWb := Lib.hid (fun w => within_any b 73048 w)
  clear hr
  generalize wiB a 63 = x at *
  generalize wiB b 73048 = y at *
  by_cases hn0 : num = 0
  · subst hn0
    by_cases hd0 : den = 0
    · subst hd0
      cases x with
      | true =>
        go_enter Tryz.func74, Tryz.ntmps74
        go_wp2_with fail
        refine (HWa.out _).mono ?_
        rintro e w1 ⟨rfl, rfl⟩
        go_wp2_with fail
        refine (HWb.out _).mono ?_
        rintro e w1 ⟨rfl, rfl⟩
        go_wp2_with fail
        go_ret
        exact ⟨ret_boolT (by rw [HR.out]; simp), HB.out _⟩
      | false =>
        go_enter Tryz.func74, Tryz.ntmps74
        go_wp2_with fail
        refine (HWa.out _).mono ?_
        rintro e w1 ⟨rfl, rfl⟩
        go_wp2_with fail
        go_ret
        exact ⟨ret_boolT (by rw [HR.out]; simp), HB.out _⟩
    · have hdb : (den == 0) = false := by simpa using hd0
      have HN : Hid (¬ ((0 : Int) = 0 ∧ den = 0)) := Lib.hid (fun h => hd0 h.2)
      go_enter Tryz.func74, Tryz.ntmps74
      go_wp2_with fail
      go_ret
      exact ⟨ret_boolT (by rw [HR.out, decide_eq_false HN.out]; simp), HB.out _⟩
  · have hnb : (num == 0) = false := by simpa using hn0
    have HN : Hid (¬ (num = 0 ∧ den = 0)) := Lib.hid (fun h => hn0 h.1)
    go_enter Tryz.func74, Tryz.ntmps74
    go_wp2_with fail
    go_ret
    exact ⟨ret_boolT (by rw [HR.out, decide_eq_false HN.out]; simp), HB.out _⟩
set_option maxHeartbeats 4000000 in
set_option maxRecDepth 100000 in
theorem rfields_def (op a b num den : Int) (ho : ¬ (op = 1 ∨ op = 2 ∨ op = 10 ∨ op = 14 ∨ op = 16 ∨ op = 17)) (w : World) :
    Calls Tryz.prog 74 #[.agg #[.int .i64 op, .int .i64 a, .int .i64 b, .int .i64 num, .int .i64 den]] w fun e w' => e = .returned (.bool (decide (a = 0) && decide (b = 0) && decide (num = 0 ∧ den = 0))) ∧ Below w.heap.size w w' := by
  obtain ⟨r, hr⟩ : ∃ r, r = (decide (a = 0) && decide (b = 0) && decide (num = 0 ∧ den = 0)) := ⟨_, rfl⟩
  rw [← hr]
  have HR := Lib.hid hr
  have HB := Lib.hid (fun o => newB w o)
  have h1 : (op == 1) = false := by simp; omega
  have h2 : (op == 2) = false := by simp; omega
  have h3 : (op == 10) = false := by simp; omega
  have h4 : (op == 14) = false := by simp; omega
  have h5 : (op == 16) = false := by simp; omega
  have h6 : (op == 17) = false := by simp; omega
  clear hr ho
  by_cases hn0 : num = 0
  · subst hn0
    by_cases hd0 : den = 0
    · subst hd0
      by_cases ha : a = 0
      · subst ha
        by_cases hb : b = 0
        · subst hb
          go_enter Tryz.func74, Tryz.ntmps74
          go_wp2_with fail
          go_ret
          exact ⟨ret_boolT (by rw [HR.out]; simp), HB.out _⟩
        · have hbb : (b == 0) = false := by simpa using hb
          have HN := Lib.hid hb
          clear hb
          go_enter Tryz.func74, Tryz.ntmps74
          go_wp2_with fail
          go_ret
          exact ⟨ret_boolT (by rw [HR.out, decide_eq_false HN.out]; simp), HB.out _⟩
      · have hab : (a == 0) = false := by simpa using ha
        have HN := Lib.hid ha
        clear ha
        go_enter Tryz.func74, Tryz.ntmps74
        go_wp2_with fail
        go_ret
        exact ⟨ret_boolT (by rw [HR.out, decide_eq_false HN.out]; simp), HB.out _⟩
    · have hdb : (den == 0) = false := by simpa using hd0
      have HN : Hid (¬ ((0 : Int) = 0 ∧ den = 0)) := Lib.hid (fun h => hd0 h.2)
      go_enter Tryz.func74, Tryz.ntmps74
      go_wp2_with fail
      go_ret
      exact ⟨ret_boolT (by rw [HR.out, decide_eq_false HN.out]; simp), HB.out _⟩
  · have hnb : (num == 0) = false := by simpa using hn0
    have HN : Hid (¬ (num = 0 ∧ den = 0)) := Lib.hid (fun h => hn0 h.1)
    go_enter Tryz.func74, Tryz.ntmps74
    go_wp2_with fail
    go_ret
    exact ⟨ret_boolT (by rw [HR.out, decide_eq_false HN.out]; simp), HB.out _⟩

theorem rfields_any (n : Nd) (hn : I64T n.num) (hd : I64T n.den) (w : World) :
    Calls Tryz.prog 74 #[.agg (ndC n)] w fun e w' => e = .returned (.bool (fldO n)) ∧ Below w.heap.size w w' := by
  obtain ⟨op, a, b, num, den⟩ := n
  by_cases h1 : op = 1
  · subst h1
    rw [fldO_one rfl]; exact rfields_one a b num den hn hd w
  by_cases h2 : op = 2
  · subst h2
    rw [fldO_else (k := 2) rfl (by decide), show ((mbN 2 : Nat) : Int) = 0 from rfl, wiB_zero]; exact rfields_fix a b num den w
  by_cases h3 : op = 10
  · subst h3
    rw [fldO_else (k := 10) rfl (by decide), show ((mbN 10 : Nat) : Int) = 0 from rfl, wiB_zero]; exact rfields_cur a b num den w
  by_cases h4 : op = 14
  · subst h4
    rw [fldO_else (k := 14) rfl (by decide), show ((mbN 14 : Nat) : Int) = 0 from rfl, wiB_zero]; exact rfields_when a b num den w
  by_cases h5 : op = 16
  · subst h5
    rw [fldO_else (k := 16) rfl (by decide), show ((mbN 16 : Nat) : Int) = 0 from rfl, wiB_zero]; exact rfields_or a b num den w
  by_cases h6 : op = 17
  · subst h6
    rw [fldO_else (k := 17) rfl (by decide)]; exact rfields_an a b num den w
  have hk : ∀ k : Nat, k ≠ 0 → (ixO op = k → op = (k : Int)) := fun k hk e => by
    unfold ixO at e
    split at e <;> omega
  have k1 : ixO op ≠ 1 := fun e => h1 (hk 1 (by decide) e)
  have k2 : ¬ (ixO op = 2 ∨ ixO op = 10 ∨ ixO op = 14 ∨ ixO op = 16 ∨ ixO op = 17) := by
    rintro (e | e | e | e | e)
    · exact h2 (hk 2 (by decide) e)
    · exact h3 (hk 10 (by decide) e)
    · exact h4 (hk 14 (by decide) e)
    · exact h5 (hk 16 (by decide) e)
    · exact h6 (hk 17 (by decide) e)
  have k3 : ¬ ixO op = 17 := fun e => k2 (by simp [e])
  rw [fldO_else (n := ⟨op, a, b, num, den⟩) (k := ixO op) rfl k1, ma_zero _ (ixO_lt op) k2, mb_zero _ (ixO_lt op) k3, show ((0 : Nat) : Int) = 0 from rfl, wiB_zero, wiB_zero]
  exact rfields_def op a b num den (by omega) w

end Go.Proofs.YtgeneoamngfomaaGreatDoor

namespace Go.Proofs.YtgeneoamngfomaaGreatDoor
open Go.RowKit Go.Lib
set_option linter.unusedVariables false

theorem plL_at (t : List Nd) (p k i : Nat) (hi : i < k) : (plL t p k).getD i 0 = ((plA t (p + 1) i : Nat) : Int) := by
  unfold plL uptoT
  rw [List.getD_eq_getElem?_getD, List.getElem?_map, List.getElem?_range hi]; rfl
theorem mxN_bd {t : List Nd} {f p : Nat} (i : Nat) : mxN (fun i => dpF t f (plA t (p + 1) i)) i ≤ f := mxN_le i (fun j _ => dpF_bd f _)

set_option maxRecDepth 100000 in
set_option maxHeartbeats 4000000 in
theorem rdep_step (t : List Nd) (hL : t.length ≤ 1000) (b o cap : Nat) (hcap : t.length ≤ cap) (f : Nat) (hf : f ≤ 1000)
    (ih : ∀ p, TmA t p → szA t p ≤ f → ∀ w, NdA w b o t → Calls Tryz.prog 18 #[.slice (some ⟨b, o, none⟩) t.length cap, .int .i64 p] w fun e w' => e = .returned (.int .i64 (dpF t f p)) ∧ Below w.heap.size w w')
    (p : Nat) (hT : TmA t p) (hsz : szA t p ≤ f + 1) (w : World) (hN : NdA w b o t) :
    Calls Tryz.prog 18 #[.slice (some ⟨b, o, none⟩) t.length cap, .int .i64 p] w fun e w' => e = .returned (.int .i64 (dpF t (f + 1) p)) ∧ Below w.heap.size w w' := by
  have HN := Lib.hid hN
  have HBl := Lib.hid (rblT_any t hL b o cap p hcap hT w hN)
  obtain ⟨c, hc⟩ : ∃ c, c = cnO (opA t p) := ⟨_, rfl⟩
  have hcn := cn_le (opA t p)
  rw [← hc] at hcn HBl
  have HR : Hid (dpF t (f + 1) p = mxN (fun i => dpF t f (plA t (p + 1) i)) c + 1) := Lib.hid (by rw [dpF, hc])
  have HKid : Hid (∀ i, i < c → ∀ w, NdA w b o t → Calls Tryz.prog 18 #[.slice (some ⟨b, o, none⟩) t.length cap, .int .i64 ((plA t (p + 1) i : Nat) : Int)] w fun e w' => e = .returned (.int .i64 (dpF t f (plA t (p + 1) i))) ∧ Below w.heap.size w w') := Lib.hid (fun i hi w hN => by
    obtain ⟨k1, k2, k3⟩ := hT.kid (i := i) (by rw [← hc]; exact hi)
    exact ih _ k1 (by omega) w hN)
  have hl := plL_len t p c
  have HAt := Lib.hid (fun i hi => plL_at t p c i hi)
  obtain ⟨r, hr⟩ : ∃ r, r = dpF t (f + 1) p := ⟨_, rfl⟩
  rw [← hr] at HR ⊢
  clear hN hT ih hsz hr hc
  generalize plL t p c = L at *
  go_enter Tryz.func18, Tryz.ntmps18
  go_wp2_with fail
  refine HBl.out.mono ?_
  rintro e w1 ⟨v, rfl, hown, hb1⟩
  have HB1 := Lib.hid hb1
  have HO := Lib.hid hown
  obtain ⟨a, cp, hv⟩ := own_len hown
  subst hv
  clear hb1 hown
  rw [hl]
  go_wp2_with fail
  go_loopw [5, 7] (fun vm vi wx => ∃ i m : Nat, i ≤ c ∧ vi = .int .i64 i ∧ vm = .int .i64 m ∧ m = mxN (fun i => dpF t f (plA t (p + 1) i)) i ∧ Below w1.heap.size w1 wx) (fun _ vi _ => c - (RowKit.intOf vi).toNat)
  case atStart => exact ⟨0, 0, Nat.zero_le _, rfl, rfl, rfl, Below.refl _ _⟩
  case round =>
    obtain ⟨i, m, hi, rfl, rfl, hm, hb⟩ := hrel
    have HB := Lib.hid hb
    have HM := Lib.hid hm
    have hmb : m ≤ f := by rw [hm]; exact mxN_bd i
    clear hm
    by_cases hlt : i < c
    · have i0 : (0 : Int) ≤ (i : Int) := by omega
      have i1 : (i : Int) < (c : Int) := by omega
      have HD := Lib.hid (HKid.out i hlt wr ((HN.out.keep HB1.out).keep hb))
      rcases (HO.out.grown hb).reads with ⟨_, hx⟩ | ⟨g, cq, hv, _, _, hrow⟩
      · rw [hx] at hl; simp at hl; omega
      · injection hv with e1 e2 e3
        subst e1 e3
        have hcell := hrow i (by omega)
        rw [HAt.out i hlt, Nat.zero_add] at hcell
        have HSn : Hid (mxN (fun i => dpF t f (plA t (p + 1) i)) (i + 1) = max m (dpF t f (plA t (p + 1) i))) := Lib.hid (by rw [mxN, ← HM.out])
        have hdb := dpF_bd (t := t) f (plA t (p + 1) i)
        generalize dpF t f (plA t (p + 1) i) = d at HD HSn hdb
        clear hb hrow e2
        go_wp2_with fail
        refine HD.out.mono ?_
        rintro e w2 ⟨rfl, hb2⟩
        have HB2 := Lib.hid (onB HB.out hb2)
        clear hb2
        go_wp2_with fail
        go_roundw
        case rel => exact ⟨i + 1, max m d, by omega, by go_num, by rw [show ((max m d : Nat) : Int) = max (m : Int) (d : Int) by omega], HSn.out.symm, HB2.out⟩
        case measure => simp [RowKit.intOf]; omega
    · obtain rfl : i = c := by omega
      have hrr := HR.out
      rw [← HM.out] at hrr
      have hm2 : (m : Int) ≤ 1000 := by omega
      have HRR := Lib.hid hrr
      clear hb hrr
      go_wp2_with fail
      go_ret
      exact ⟨by rw [HRR.out]; rfl, onB HB1.out HB.out⟩
theorem rdep_any (t : List Nd) (hL : t.length ≤ 1000) (b o cap : Nat) (hcap : t.length ≤ cap) : ∀ f, f ≤ 1001 → ∀ p, TmA t p → szA t p ≤ f → ∀ w, NdA w b o t →
    Calls Tryz.prog 18 #[.slice (some ⟨b, o, none⟩) t.length cap, .int .i64 p] w fun e w' => e = .returned (.int .i64 (dpF t f p)) ∧ Below w.heap.size w w'
  | 0, _, p, hT, hf, _, _ => absurd hT.bd.1 (by omega)
  | f + 1, h, p, hT, hf, w, hN => rdep_step t hL b o cap hcap f (by omega) (fun p hT hf w hN => rdep_any t hL b o cap hcap f (by omega) p hT hf w hN) p hT hf w hN
theorem rdep_ok (t : List Nd) (hL : t.length ≤ 1000) (b o cap : Nat) (hcap : t.length ≤ cap) (p : Nat) (hT : TmA t p) (w : World) (hN : NdA w b o t) :
    Calls Tryz.prog 18 #[.slice (some ⟨b, o, none⟩) t.length cap, .int .i64 p] w fun e w' => e = .returned (.int .i64 (dpA t p)) ∧ Below w.heap.size w w' :=
  rdep_any t hL b o cap hcap (szA t p) (by have := hT.bd; omega) p hT (Nat.le_refl _) w hN

end Go.Proofs.YtgeneoamngfomaaGreatDoor

namespace Go.Proofs.YtgeneoamngfomaaGreatDoor
open Go.RowKit Go.Lib
set_option linter.unusedVariables false

/-- The sort that chattelref05.Of answers. -/
noncomputable def ofS (t : List Nd) : ByteArray := if (ofK t).2 = 0 then sortS (opA t 0) else ⟨#[]⟩
theorem ret_sn {s s' : ByteArray} {a b : Int} (h : s = s') (h' : a = b) : Ending.returned (.tuple #[.string s, .int .i64 a]) = .returned (.tuple #[.string s', .int .i64 b]) := by rw [h, h']
theorem ofS_err {t : List Nd} {k : Nat} (h : ofK t = (0, k)) (hk : k ≠ 0) : ofS t = ⟨#[]⟩ ∧ (ofK t).2 = k := by
  unfold ofS
  rw [h]; exact ⟨if_neg hk, rfl⟩

theorem rof_great (a : Option Addr) (len cap : Nat) (h : 64 < len) (hl : len ≤ 9223372036854775807) (w : World) : Calls Tryz.prog 46 #[.slice a len cap] w fun e w' => e = .returned (.tuple #[.string ⟨#[]⟩, .int .i64 15]) ∧ w = w' := by
  have h1 : (64 : Int) < (len : Int) := by omega
  go_enter Tryz.func46, Tryz.ntmps46
  go_wp2_with fail
  go_ret2
  exact ⟨rfl, rfl⟩
theorem rof_empty (a : Option Addr) (cap : Nat) (w : World) : Calls Tryz.prog 46 #[.slice a 0 cap] w fun e w' => e = .returned (.tuple #[.string ⟨#[]⟩, .int .i64 13]) ∧ w = w' := by
  go_enter Tryz.func46, Tryz.ntmps46
  go_wp2_with fail
  go_ret2
  exact ⟨rfl, rfl⟩

set_option maxHeartbeats 8000000 in
set_option maxRecDepth 100000 in
theorem rof_whole (t : List Nd) (h0 : 0 < t.length) (h64 : t.length ≤ 64) (b o cap : Nat) (hcap : t.length ≤ cap) (hbd : BdT t) (hW : WholeT t) (w : World) (hN : NdA w b o t) :
    Calls Tryz.prog 46 #[.slice (some ⟨b, o, none⟩) t.length cap] w fun e w' => e = .returned (.tuple #[.string (ofS t), .int .i64 (ofK t).2]) ∧ Below w.heap.size w w' := by
  have hmx : Tryz.prog.follows .mixedOrders = true := by kernel_rfl
  obtain ⟨rs, hrs⟩ : ∃ r, r = ofS t := ⟨_, rfl⟩
  obtain ⟨re, hre⟩ : ∃ r, r = (ofK t).2 := ⟨_, rfl⟩
  rw [← hrs, ← hre]
  have HR : Hid (rs = ofS t ∧ re = (ofK t).2) := Lib.hid ⟨hrs, hre⟩
  have HS := Lib.hid (rszT_any t (by omega) b o cap hcap 0 h0 w hN)
  obtain ⟨w1, w2⟩ := hW.tm
  have HW1 := Lib.hid w1
  rw [szE_ok w1, w2] at HS
  have HN := Lib.hid hN
  have HBd := Lib.hid hbd
  have HAll := Lib.hid hW.all
  have HW := Lib.hid hW
  have H64 : Hid (¬ 64 < t.length) := Lib.hid (by omega)
  have h1000 : t.length ≤ 1000 := by omega
  have l0 : ¬ (64 : Int) < (t.length : Int) := by omega
  have l1 : ((t.length : Int) == 0) = false := beq_false_of_ne (by omega)
  have l2 : (0 : Int) < (t.length : Int) := by omega
  clear hrs hre hN hbd hW w1 w2 h64
  go_enter Tryz.func46, Tryz.ntmps46
  go_wp2_with fail
  refine HS.out.mono ?_
  rintro e w1 ⟨rfl, hb1⟩
  have HB1 := Lib.hid hb1
  clear hb1
  go_wp2_with fail
  go_loopw [4] (fun vi wx => ∃ i : Nat, i ≤ t.length ∧ vi = .int .i64 i ∧ (∀ p, p < i → fldO (t.getD p default) = true) ∧ Below w.heap.size w wx) (fun vi _ => t.length - (RowKit.intOf vi).toNat)
  case atStart => exact ⟨0, Nat.zero_le _, rfl, fun p hp => absurd hp (Nat.not_lt_zero p), HB1.out⟩
  case round =>
    obtain ⟨i, hi, rfl, hok, hb⟩ := hrel
    have HOk := Lib.hid hok
    have HB := Lib.hid hb
    by_cases hlt : i < t.length
    · have i0 : (0 : Int) ≤ (i : Int) := by omega
      have i1 : (i : Int) < (t.length : Int) := by omega
      have hnc := (HN.out.keep hb) i hlt
      have hbb := HBd.out i hlt
      obtain ⟨nd, hnd⟩ : ∃ nd, nd = t.getD i default := ⟨_, rfl⟩
      have HNd := Lib.hid hnd
      rw [← hnd] at hnc hbb
      obtain ⟨e0, e1, e2, e3, e4⟩ := hnc
      have HF := Lib.hid (fun w => rfields_any nd hbb.1 hbb.2 w)
      unfold ndC at HF
      obtain ⟨ff, hff⟩ : ∃ ff, ff = fldO nd := ⟨_, rfl⟩
      rw [← hff] at HF
      have HFF := Lib.hid hff
      clear hok hb hnd hbb hff
      go_wp2_with fail
      refine (HF.out _).mono ?_
      rintro e w2 ⟨rfl, hb2⟩
      have HB2 := Lib.hid (onB HB.out hb2)
      clear hb2
      cases ff with
      | true =>
        go_wp2_with fail
        go_roundw
        case rel =>
          refine ⟨i + 1, by omega, by go_num, fun p hp => ?_, HB2.out⟩
          by_cases e : p = i
          · subst e; rw [← HNd.out]; exact HFF.out.symm
          · exact HOk.out p (by omega)
        case measure => simp [RowKit.intOf]; omega
      | false =>
        have HA : Hid (ofK t = (0, 10)) := Lib.hid (by
          unfold ofK
          rw [if_neg H64.out, if_neg (fun h => h HW.out), if_pos (fun h => by
            have := h i hlt
            rw [← HNd.out, ← HFF.out] at this; cases this)])
        go_wp2_with fail
        go_ret2
        exact ⟨ret_sn (by rw [HR.out.1, (ofS_err HA.out (by decide)).1]; first | done | rfl) (by rw [HR.out.2, (ofS_err HA.out (by decide)).2]; first | done | rfl), HB2.out⟩
    · obtain rfl : i = t.length := by omega
      clear hok hb
      go_wp2_with fail
      go_loopw [5] (fun vk wx => ∃ k : Nat, k ≤ t.length ∧ vk = .int .i64 k ∧ (∀ p, p < k → SrtA t p) ∧ Below w.heap.size w wx) (fun vk _ => t.length - (RowKit.intOf vk).toNat)
      case atStart => exact ⟨0, Nat.zero_le _, rfl, fun p hp => absurd hp (Nat.not_lt_zero p), HB.out⟩
      case round =>
        obtain ⟨k, hk, rfl, hsr, hb⟩ := hrel
        have HSr := Lib.hid hsr
        have HBk := Lib.hid hb
        by_cases hlt : k < t.length
        · have i0 : (0 : Int) ≤ (k : Int) := by omega
          have i1 : (k : Int) < (t.length : Int) := by omega
          have tk := HAll.out k hlt
          have HBl := Lib.hid (rblT_any t h1000 b o cap k hcap tk wr (HN.out.keep hb))
          obtain ⟨c, hc⟩ : ∃ c, c = cnO (opA t k) := ⟨_, rfl⟩
          have hcn := cn_le (opA t k)
          rw [← hc] at hcn HBl
          have hl := plL_len t k c
          have HAt := Lib.hid (fun i hi => plL_at t k c i hi)
          have HKin : Hid (∀ i, i < c → plA t (k + 1) i < t.length ∧ mkO (opA t (plA t (k + 1) i)) ≠ 0) := Lib.hid (fun i hi => by
            have := (tk.kid (i := i) (by rw [← hc]; exact hi)).1
            exact ⟨this.lt, this.parts.1⟩)
          have HRK := Lib.hid (fun w => rkids_any (opA t k) w)
          have hks := kidsS_size (opA t k)
          rw [← hc] at hks
          have HCut : Hid (∀ i, i < c → ∃ m : Nat, (kidsS (opA t k)).extract i (i + 1) = ⟨#[sB m]⟩ ∧ (m = 1 ∨ m = 2) ∧ m = kdC (ixO (opA t k)) i) := Lib.hid (fun i hi => ⟨_, kids_cut (opA t k) i (by rw [← hc]; exact hi), by have := kd_in (opA t k) i (by rw [← hc]; exact hi); omega, rfl⟩)
          have HSt : Hid ((∀ i, i < c → mkO (opA t (plA t (k + 1) i)) = kdC (ixO (opA t k)) i) → SrtA t k) := Lib.hid (fun h i hi => h i (by rw [hc]; exact hi))
          have HSn : Hid (SrtA t k → ∀ i, i < c → mkO (opA t (plA t (k + 1) i)) = kdC (ixO (opA t k)) i) := Lib.hid (fun h i hi => h i (by rw [← hc]; exact hi))
          have HOpk : Hid (∀ wx, Below w.heap.size w wx → wx.cell? ⟨b, o + k * 5, none⟩ = some (.int .i64 (opA t k))) := Lib.hid (fun wx hb => (HN.out.keep hb k hlt).c0)
          generalize opA t k = opk at HRK HCut HSt HSn HOpk hks
          generalize kidsS opk = ks at *
          generalize plL t k c = L at *
          clear hsr hb tk hc
          go_wp2_with fail
          refine HBl.out.mono ?_
          rintro e w2 ⟨v, rfl, hown, hb2⟩
          have HB2 := Lib.hid (onB HBk.out hb2)
          have HO := Lib.hid hown
          obtain ⟨a, cp, hv⟩ := own_len hown
          subst hv
          rw [hl]
          clear hb2 hown
          go_wp2_with fail
          go_loopw [7] (fun vj wx => ∃ j : Nat, j ≤ c ∧ vj = .int .i64 j ∧ (∀ i, i < j → mkO (opA t (plA t (k + 1) i)) = kdC (ixO opk) i) ∧ Below w2.heap.size w2 wx) (fun vj _ => c - (RowKit.intOf vj).toNat)
          case atStart => exact ⟨0, Nat.zero_le _, rfl, fun i hi => absurd hi (Nat.not_lt_zero i), Below.refl _ _⟩
          case round =>
            obtain ⟨j, hj, rfl, hjs, hb⟩ := hrel
            have HJs := Lib.hid hjs
            have HBj := Lib.hid (onB HB2.out hb)
            by_cases hltj : j < c
            · have j0 : (0 : Int) ≤ (j : Int) := by omega
              have j1 : (j : Int) < (c : Int) := by omega
              have j2 : (j : Int) + 1 ≤ (c : Int) := by omega
              have j3 : (j : Int) ≤ (j : Int) + 1 := by omega
              have j5 : (0 : Int) ≤ (j : Int) + 1 := by omega
              have hwp : IntKind.i64.wrap ((j : Int) + 1) = (j : Int) + 1 := IntWalk.i64_in _ (by omega)
              have hn : ((j : Int) + 1).toNat = j + 1 := by omega
              rcases (HO.out.grown hb).reads with ⟨_, hx⟩ | ⟨g, cq, hv, _, _, hrow⟩
              · rw [hx] at hl; simp at hl; omega
              · injection hv with e1 e2 e3
                subst e1 e3
                have f1 := hrow j (by omega)
                rw [HAt.out j hltj, Nat.zero_add] at f1
                obtain ⟨hP, hPm⟩ := HKin.out j hltj
                have f2 := (HN.out.keep HBj.out _ hP).c0
                have f3 := HOpk.out wr HBj.out
                have hopP : (t.getD (plA t (k + 1) j) default).op = opA t (plA t (k + 1) j) := rfl
                rw [hopP] at f2
                have HRS := Lib.hid (fun w => rsort_any (opA t (plA t (k + 1) j)) w)
                have hsS : sortS (opA t (plA t (k + 1) j)) = ⟨#[sB (mkO (opA t (plA t (k + 1) j)))]⟩ := by unfold sortS; rw [if_neg hPm]
                rw [hsS] at HRS
                have hm12 : mkO (opA t (plA t (k + 1) j)) = 1 ∨ mkO (opA t (plA t (k + 1) j)) = 2 := by have := mk_le (opA t (plA t (k + 1) j)); omega
                obtain ⟨m, hcut, hm, hmk⟩ := HCut.out j hltj
                obtain ⟨m', hm'⟩ : ∃ m', m' = mkO (opA t (plA t (k + 1) j)) := ⟨_, rfl⟩
                have HMm := Lib.hid (And.intro hm' hmk)
                rw [← hm'] at HRS hm12
                have hP0 : (0 : Int) ≤ ((plA t (k + 1) j : Nat) : Int) := by omega
                have hP1 : ((plA t (k + 1) j : Nat) : Int) < (t.length : Int) := by omega
                have HBr := Lib.hid hb
                generalize opA t (plA t (k + 1) j) = opP at HRS f2
                generalize plA t (k + 1) j = P at f1 f2 hP0 hP1
                clear hjs hrow hP hPm hopP hsS hm' hmk e2
                go_wp2_with fail
                go_region_held3 (fun w' => w'.cell? ⟨g, j, none⟩ = some (.int .i64 P) ∧ w'.cell? ⟨b, o + P * 5, none⟩ = some (.int .i64 opP) ∧ w'.cell? ⟨b, o + k * 5, none⟩ = some (.int .i64 opk) ∧ Below wr.heap.size wr w')
                  (first | (with_reducible exact ⟨f1', f2', f3', hb'⟩) | (exact ⟨f1, f2, f3, Below.drew (Below.refl _ _)⟩) | go_keep)
                  (first | (go_at_call 75; (with_reducible refine (HRS.out _).mono ?_); rintro e w3 ⟨rfl, rfl⟩) | (go_at_call 59; (with_reducible refine (HRK.out _).mono ?_); rintro e w3 ⟨rfl, hb3⟩; have f1' := keepT (w := wr.drew) hb3 f1; have f2' := keepT (w := wr.drew) hb3 f2; have f3' := keepT (w := wr.drew) hb3 f3; have hb' := undrewT hb3; clear hb3))
                have HB3 := Lib.hid hb'
                clear f1' f2' f3' hb'
                have hs1 : sB 1 = 111 := rfl
                have hs2 : sB 2 = 99 := rfl
                rcases hm12 with rfl | rfl
                · rcases hm with rfl | rfl
                  · go_wp2_with fail
                    go_roundw
                    case rel =>
                      refine ⟨j + 1, by omega, by go_num, fun i hi => ?_, onB HBr.out HB3.out⟩
                      by_cases e : i = j
                      · subst e; rw [← HMm.out.1, ← HMm.out.2]
                      · exact HJs.out i (by omega)
                    case measure => simp [RowKit.intOf]; omega
                  · have HA : Hid (ofK t = (0, 14)) := Lib.hid (by
                      unfold ofK
                      rw [if_neg H64.out, if_neg (fun h => h HW.out), if_neg (fun h => h HOk.out), if_pos (fun h => by
                        have := HSn.out (h k hlt) j hltj
                        rw [← HMm.out.1, ← HMm.out.2] at this
                        exact absurd this (by decide))])
                    go_wp2_with fail
                    go_ret2
                    exact ⟨ret_sn (by rw [HR.out.1, (ofS_err HA.out (by decide)).1]; first | done | rfl) (by rw [HR.out.2, (ofS_err HA.out (by decide)).2]; first | done | rfl), onB HBj.out HB3.out⟩
                · rcases hm with rfl | rfl
                  · have HA : Hid (ofK t = (0, 14)) := Lib.hid (by
                      unfold ofK
                      rw [if_neg H64.out, if_neg (fun h => h HW.out), if_neg (fun h => h HOk.out), if_pos (fun h => by
                        have := HSn.out (h k hlt) j hltj
                        rw [← HMm.out.1, ← HMm.out.2] at this
                        exact absurd this (by decide))])
                    go_wp2_with fail
                    go_ret2
                    exact ⟨ret_sn (by rw [HR.out.1, (ofS_err HA.out (by decide)).1]; first | done | rfl) (by rw [HR.out.2, (ofS_err HA.out (by decide)).2]; first | done | rfl), onB HBj.out HB3.out⟩
                  · go_wp2_with fail
                    go_roundw
                    case rel =>
                      refine ⟨j + 1, by omega, by go_num, fun i hi => ?_, onB HBr.out HB3.out⟩
                      by_cases e : i = j
                      · subst e; rw [← HMm.out.1, ← HMm.out.2]
                      · exact HJs.out i (by omega)
                    case measure => simp [RowKit.intOf]; omega
            · obtain rfl : j = c := by omega
              clear hjs hb
              go_wp2_with fail
              go_roundw
              case rel =>
                refine ⟨k + 1, by omega, by go_num, fun p hp => ?_, HBj.out⟩
                by_cases e : p = k
                · subst e; exact HSt.out HJs.out
                · exact HSr.out p (by omega)
              case measure => simp [RowKit.intOf]; omega
        · obtain rfl : k = t.length := by omega
          have HD := Lib.hid (rdep_ok t h1000 b o cap hcap 0 HW1.out wr (HN.out.keep hb))
          have HO : Hid (ofK t = if 12 < dpA t 0 then (0, 15) else (mkO (opA t 0), 0)) := Lib.hid (by
            unfold ofK
            rw [if_neg H64.out, if_neg (fun h => h HW.out), if_neg (fun h => h HOk.out), if_neg (fun h => h HSr.out)])
          clear hsr hb
          generalize dpA t 0 = d at *
          by_cases hd : 12 < d
          · have hd' : (12 : Int) < (d : Int) := by omega
            have HA : Hid (ofK t = (0, 15)) := Lib.hid (by rw [HO.out, if_pos hd])
            clear hd
            go_wp2_with fail
            refine HD.out.mono ?_
            rintro e w4 ⟨rfl, hb4⟩
            go_wp2_with fail
            go_ret2
            exact ⟨ret_sn (by rw [HR.out.1, (ofS_err HA.out (by decide)).1]; first | done | rfl) (by rw [HR.out.2, (ofS_err HA.out (by decide)).2]; first | done | rfl), onB HBk.out hb4⟩
          · have hd' : ¬ (12 : Int) < (d : Int) := by omega
            have HA : Hid (ofK t = (mkO (opA t 0), 0)) := Lib.hid (by rw [HO.out, if_neg hd])
            clear hd
            go_wp2_with fail
            refine HD.out.mono ?_
            rintro e w4 ⟨rfl, hb4⟩
            have HB4 := Lib.hid (onB HBk.out hb4)
            have hc := (HN.out.keep HB4.out 0 h0).c0
            have HSo := Lib.hid (rsort_any (opA t 0) w4)
            have hop : (t.getD 0 default).op = opA t 0 := rfl
            have HA2 : Hid (ofS t = sortS (opA t 0) ∧ (ofK t).2 = 0) := Lib.hid (by
              unfold ofS
              rw [HA.out]; exact ⟨if_pos rfl, rfl⟩)
            rw [hop, show o + 0 * 5 = o by omega] at hc
            generalize sortS (opA t 0) = sx at HSo HA2
            generalize opA t 0 = op0 at hc HSo
            clear hb4 hop
            go_wp2_with fail
            refine HSo.out.mono ?_
            rintro e w5 ⟨rfl, rfl⟩
            go_wp2_with fail
            go_ret2
            exact ⟨ret_sn (by rw [HR.out.1, HA2.out.1]; first | done | rfl) (by rw [HR.out.2, HA2.out.2]; first | done | rfl), HB4.out⟩

set_option maxHeartbeats 2000000 in
set_option maxRecDepth 100000 in
theorem rof_part (t : List Nd) (h0 : 0 < t.length) (h64 : t.length ≤ 64) (b o cap : Nat) (hcap : t.length ≤ cap) (hW : ¬ WholeT t) (w : World) (hN : NdA w b o t) :
    Calls Tryz.prog 46 #[.slice (some ⟨b, o, none⟩) t.length cap] w fun e w' => e = .returned (.tuple #[.string ⟨#[]⟩, .int .i64 13]) ∧ Below w.heap.size w w' := by
  have HS := Lib.hid (rszT_any t (by omega) b o cap hcap 0 h0 w hN)
  have hne : (szE t 0).1 ≠ t.length := fun e => by
    by_cases hT : TmA t 0
    · rw [szE_ok hT] at e; exact hW (WholeT.of hT e)
    · rw [szE_no hT] at e; exact absurd e (by show (0 : Nat) ≠ _; omega)
  have hneb : (((szE t 0).1 : Int) == (t.length : Int)) = false := beq_false_of_ne (by omega)
  have l0 : ¬ (64 : Int) < (t.length : Int) := by omega
  have l1 : ((t.length : Int) == 0) = false := beq_false_of_ne (by omega)
  clear hne hN hW
  generalize (szE t 0).1 = sz at *
  go_enter Tryz.func46, Tryz.ntmps46
  go_wp2_with fail
  refine HS.out.mono ?_
  rintro e w1 ⟨rfl, hb1⟩
  go_wp2_with fail
  go_ret2
  exact ⟨rfl, hb1⟩

theorem rofT_any (t : List Nd) (hl : t.length ≤ 9223372036854775807) (hbd : BdT t) (v : Value) (w : World) (hv : SlT w v t) :
    Calls Tryz.prog 46 #[v] w fun e w' => e = .returned (.tuple #[.string (ofS t), .int .i64 (ofK t).2]) ∧ Below w.heap.size w w' := by
  rcases hv with ⟨rfl, a, cap, rfl⟩ | ⟨h0, b, o, cap, rfl, h2, h3, h4⟩
  · have e : ofK [] = (0, 13) := by
      unfold ofK
      rw [if_neg (by simp), if_pos (fun h => absurd (whole_len h) (by simp))]
    obtain ⟨e1, e2⟩ := ofS_err e (by decide)
    rw [e1, e2]
    exact (rof_empty a cap w).mono fun e w' ⟨he, hw⟩ => ⟨he, by subst hw; exact Below.refl _ _⟩
  · by_cases h64 : 64 < t.length
    · have e : ofK t = (0, 15) := by unfold ofK; rw [if_pos h64]
      obtain ⟨e1, e2⟩ := ofS_err e (by decide)
      rw [e1, e2]
      exact (rof_great _ t.length cap h64 hl w).mono fun e w' ⟨he, hw⟩ => ⟨he, by subst hw; exact Below.refl _ _⟩
    · by_cases hW : WholeT t
      · exact rof_whole t h0 (by omega) b o cap h2 hbd hW w h4
      · have e : ofK t = (0, 13) := by unfold ofK; rw [if_neg h64, if_pos hW]
        obtain ⟨e1, e2⟩ := ofS_err e (by decide)
        rw [e1, e2]
        exact rof_part t h0 (by omega) b o cap h2 hW w h4

/-- What Of answers, as one sort. -/
theorem ofK_ok {t : List Nd} (h : (ofK t).2 = 0) : (ofK t).1 = mkO (opA t 0) := by
  unfold ofK at h ⊢
  split
  · rename_i c; rw [if_pos c] at h; cases h
  · rename_i c; rw [if_neg c] at h
    split
    · rename_i c; rw [if_pos c] at h; cases h
    · rename_i c; rw [if_neg c] at h
      split
      · rename_i c; rw [if_pos c] at h; cases h
      · rename_i c; rw [if_neg c] at h
        split
        · rename_i c; rw [if_pos c] at h; cases h
        · rename_i c; rw [if_neg c] at h
          split
          · rename_i c; rw [if_pos c] at h; cases h
          · rfl
set_option maxHeartbeats 2000000 in
set_option maxRecDepth 100000 in
theorem rchkT_any (t : List Nd) (hl : t.length ≤ 9223372036854775807) (hbd : BdT t) (v : Value) (w : World) (hv : SlT w v t) :
    Calls Tryz.prog 17 #[v] w fun e w' => e = .returned (.int .i64 (chkK t)) ∧ Below w.heap.size w w' := by
  have HO := Lib.hid (rofT_any t hl hbd v w hv)
  obtain ⟨r, hr⟩ : ∃ r, r = chkK t := ⟨_, rfl⟩
  rw [← hr]
  have HR : Hid (r = if (ofK t).2 ≠ 0 then (ofK t).2 else if (ofK t).1 = 2 then 0 else 14) := Lib.hid (by rw [hr]; rfl)
  clear hr hv hbd
  by_cases he : (ofK t).2 = 0
  · have h1 := ofK_ok he
    have hs : ofS t = sortS (opA t 0) := by unfold ofS; rw [if_pos he]
    have hR2 : r = if mkO (opA t 0) = 2 then 0 else 14 := by rw [HR.out, if_neg (fun h => h he), h1]
    rw [hs, he] at HO
    have HR2 := Lib.hid hR2
    clear HR h1 he hR2 hs
    have hc : (mkO (opA t 0) = 2 ∧ sortS (opA t 0) = ⟨#[99]⟩) ∨ (mkO (opA t 0) ≠ 2 ∧ (sortS (opA t 0) = ⟨#[111]⟩ ∨ sortS (opA t 0) = ⟨#[]⟩)) := by
      have := mk_le (opA t 0)
      unfold sortS
      by_cases h0 : mkO (opA t 0) = 0
      · rw [if_pos h0]; exact .inr ⟨by omega, .inr rfl⟩
      · rw [if_neg h0]
        have h12 : mkO (opA t 0) = 1 ∨ mkO (opA t 0) = 2 := by omega
        rcases h12 with e | e
        · rw [e]; exact .inr ⟨by decide, .inl rfl⟩
        · rw [e]; exact .inl ⟨rfl, rfl⟩
    rcases hc with ⟨hm, hs⟩ | ⟨hm, hs | hs⟩
    · rw [hs] at HO
      have HA : Hid (r = 0) := Lib.hid (by rw [HR2.out, if_pos hm])
      clear hs hm
      go_enter Tryz.func17, Tryz.ntmps17
      go_wp2_with fail
      refine HO.out.mono ?_
      rintro e w1 ⟨rfl, hb⟩
      go_wp2_with fail
      go_ret
      exact ⟨by rw [HA.out]; rfl, hb⟩
    all_goals
      rw [hs] at HO
      have HA : Hid (r = 14) := Lib.hid (by rw [HR2.out, if_neg hm])
      clear hs hm
      go_enter Tryz.func17, Tryz.ntmps17
      go_wp2_with fail
      refine HO.out.mono ?_
      rintro e w1 ⟨rfl, hb⟩
      go_wp2_with fail
      go_ret
      exact ⟨by rw [HA.out]; rfl, hb⟩
  · have hb2 : (((ofK t).2 : Int) == 0) = false := beq_false_of_ne (by omega)
    have HR2 : Hid (r = (ofK t).2) := Lib.hid (by rw [HR.out, if_pos he])
    clear he
    generalize (ofK t).2 = e0 at *
    go_enter Tryz.func17, Tryz.ntmps17
    go_wp2_with fail
    refine HO.out.mono ?_
    rintro e w1 ⟨rfl, hb⟩
    go_wp2_with fail
    go_ret
    exact ⟨by rw [HR2.out]; first | done | rfl, hb⟩

end Go.Proofs.YtgeneoamngfomaaGreatDoor

namespace Go.Proofs.YtgeneoamngfomaaGreatDoor
open Go.RowKit Go.Lib
set_option linter.unusedVariables false

end Go.Proofs.YtgeneoamngfomaaGreatDoor

namespace Go.Proofs.YtgeneoamngfomaaGreatDoor
open Go.RowKit Go.Lib
set_option linter.unusedVariables false

/-- What stands from a node on. -/
def subT (t : List Nd) (p n : Nat) : List Nd := (t.drop p).take n
theorem subT_len {t : List Nd} {p n : Nat} (h : p + n ≤ t.length) : (subT t p n).length = n := by
  unfold subT
  rw [List.length_take, List.length_drop]; omega
theorem subT_get {t : List Nd} {p n i : Nat} (h : p + n ≤ t.length) (hi : i < n) : (subT t p n).getD i default = t.getD (p + i) default := by
  unfold subT
  rw [List.getD_eq_getElem?_getD, List.getD_eq_getElem?_getD, List.getElem?_take, if_pos hi, List.getElem?_drop]
theorem subT_op {t : List Nd} {p n i : Nat} (h : p + n ≤ t.length) (hi : i < n) : opA (subT t p n) i = opA t (p + i) := by
  unfold opA
  rw [subT_get h hi]
theorem subT_drop {t : List Nd} {p n q : Nat} : (subT t p n).drop q = (t.drop (p + q)).take (n - q) := by
  unfold subT
  rw [List.drop_take, List.drop_drop]
theorem sub_whole {t : List Nd} {p : Nat} (h : TmA t p) : WholeT (subT t p (szA t p)) := by
  unfold WholeT
  rw [subT_len h.bd.2]
  exact scan_take h.eq (Nat.le_refl _)
/-- Within a term's part a term is as it is in the whole. -/
theorem sub_tm {t : List Nd} {p n q : Nat} (h : TmA (subT t p n) q) : TmA t (p + q) ∧ szA t (p + q) = szA (subT t p n) q := by
  have e := h.eq
  rw [subT_drop] at e
  have e2 := scan_more e ((t.drop (p + q)).drop (n - q))
  rw [List.take_append_drop] at e2
  exact TmA.of e2
theorem tm_nest {t : List Nd} {p q : Nat} (h : TmA t p) (hq : q < szA t p) : TmA (subT t p (szA t p)) q ∧ TmA t (p + q) ∧ szA t (p + q) = szA (subT t p (szA t p)) q ∧ q + szA t (p + q) ≤ szA t p := by
  have hw := sub_whole h
  have hl := subT_len (n := szA t p) h.bd.2
  have h1 := hw.all q (by rw [hl]; exact hq)
  obtain ⟨h2, h3⟩ := sub_tm h1
  have := h1.bd.2
  rw [hl] at this
  exact ⟨h1, h2, h3, by omega⟩
theorem sub_pl {t : List Nd} {p : Nat} (h : TmA t p) {q : Nat} (hq : q < szA t p) : ∀ i, i ≤ cnO (opA t (p + q)) → p + plA (subT t p (szA t p)) (q + 1) i = plA t (p + q + 1) i
  | 0, _ => by rw [plA, plA]; omega
  | i + 1, hi => by
    obtain ⟨h1, h2, h3, h4⟩ := tm_nest h hq
    have hop := subT_op (n := szA t p) h.bd.2 hq
    obtain ⟨k1, k2, k3⟩ := h1.kid (i := i) (by rw [hop]; omega)
    have ih := sub_pl h hq i (by omega)
    obtain ⟨k4, k5⟩ := sub_tm k1
    rw [plA, plA, ← ih, k5]; omega
theorem sub_dp {t : List Nd} {p : Nat} (h : TmA t p) : ∀ (n q : Nat), q < szA t p → szA t (p + q) ≤ n → dpA (subT t p (szA t p)) q = dpA t (p + q)
  | 0, q, hq, hn => by
    obtain ⟨_, h2, _, _⟩ := tm_nest h hq
    have := h2.bd; omega
  | n + 1, q, hq, hn => by
    obtain ⟨h1, h2, h3, h4⟩ := tm_nest h hq
    have hop := subT_op (n := szA t p) h.bd.2 hq
    rw [dpA_eq h1, dpA_eq h2, hop]
    congr 1
    refine mxN_congr _ (fun i hi => ?_)
    have ih := sub_pl h hq i (by omega)
    obtain ⟨k1, k2, k3⟩ := h2.kid hi
    rw [← ih] at k1 k2 k3 ⊢
    have hb1 := k1.bd
    exact sub_dp h n (plA (subT t p (szA t p)) (q + 1) i) (by omega) (by omega)
/-- Which of the terms below has a place. -/
theorem pl_find {t : List Nd} {p : Nat} : ∀ (c q : Nat), plA t p 0 ≤ q → q < plA t p c → ∃ i, i < c ∧ plA t p i ≤ q ∧ q < plA t p i + szA t (plA t p i)
  | 0, q, h1, h2 => by omega
  | c + 1, q, h1, h2 => by
    by_cases h : q < plA t p c
    · obtain ⟨i, h3, h4⟩ := pl_find c q h1 h
      exact ⟨i, by omega, h4⟩
    · exact ⟨c, by omega, by omega, by rw [plA] at h2; exact h2⟩
theorem dp_in {t : List Nd} : ∀ (n p : Nat), szA t p ≤ n → TmA t p → ∀ q, p ≤ q → q < p + szA t p → dpA t q ≤ dpA t p
  | 0, p, hn, h, _, _, _ => by have := h.bd; omega
  | n + 1, p, hn, h, q, h1, h2 => by
    by_cases e : q = p
    · subst e; exact Nat.le_refl _
    · obtain ⟨_, hk, hend⟩ := h.parts
      obtain ⟨i, hi, h3, h4⟩ := pl_find (t := t) (p := p + 1) (cnO (opA t p)) q (by rw [plA]; omega) (by rw [hend]; exact h2)
      obtain ⟨k1, k2, k3⟩ := h.kid hi
      have ih := dp_in n (plA t (p + 1) i) (by omega) k1 q h3 h4
      rw [dpA_eq h]
      have := le_mxN (g := fun i => dpA t (plA t (p + 1) i)) hi
      have this2 : dpA t (plA t (p + 1) i) ≤ mxN (fun i => dpA t (plA t (p + 1) i)) (cnO (opA t p)) := this
      omega

/-- What a row that is right tells. -/
theorem ofK_zero {t : List Nd} (h : (ofK t).2 = 0) : t.length ≤ 64 ∧ WholeT t ∧ (∀ p, p < t.length → fldO (t.getD p default) = true) ∧ (∀ p, p < t.length → SrtA t p) ∧ dpA t 0 ≤ 12 := by
  unfold ofK at h
  by_cases c1 : 64 < t.length
  · rw [if_pos c1] at h; cases h
  rw [if_neg c1] at h
  by_cases c2 : WholeT t
  · rw [if_neg (fun x => x c2)] at h
    by_cases c3 : ∀ p, p < t.length → fldO (t.getD p default) = true
    · rw [if_neg (fun x => x c3)] at h
      by_cases c4 : ∀ p, p < t.length → SrtA t p
      · rw [if_neg (fun x => x c4)] at h
        by_cases c5 : 12 < dpA t 0
        · rw [if_pos c5] at h; cases h
        · exact ⟨by omega, c2, c3, c4, by omega⟩
      · rw [if_pos c4] at h; cases h
    · rw [if_pos c3] at h; cases h
  · rw [if_pos c2] at h; cases h
theorem ofK_yes {t : List Nd} (h1 : t.length ≤ 64) (h2 : WholeT t) (h3 : ∀ p, p < t.length → fldO (t.getD p default) = true) (h4 : ∀ p, p < t.length → SrtA t p) (h5 : dpA t 0 ≤ 12) : ofK t = (mkO (opA t 0), 0) := by
  unfold ofK
  rw [if_neg (by omega), if_neg (fun x => x h2), if_neg (fun x => x h3), if_neg (fun x => x h4), if_neg (by omega)]
theorem sub_srt {t : List Nd} {p : Nat} (h : TmA t p) {q : Nat} (hq : q < szA t p) (hs : SrtA t (p + q)) : SrtA (subT t p (szA t p)) q := by
  intro i hi
  have hop := subT_op (n := szA t p) h.bd.2 hq
  rw [hop] at hi ⊢
  have ih := sub_pl h hq i (by omega)
  obtain ⟨h1, h2, h3, h4⟩ := tm_nest h hq
  obtain ⟨k1, k2, k3⟩ := h2.kid hi
  have hb1 := k1.bd
  rw [← hs i hi, ← ih, subT_op h.bd.2 (by omega)]
/-- What stands below any node of a right term is right. -/
theorem sub_of {t : List Nd} (h : (ofK t).2 = 0) {p : Nat} (hp : p < t.length) : ofK (subT t p (szA t p)) = (mkO (opA t p), 0) := by
  obtain ⟨h1, h2, h3, h4, h5⟩ := ofK_zero h
  have ht := h2.all p hp
  have hl := subT_len (n := szA t p) ht.bd.2
  have hb := ht.bd
  have e0 := subT_op (i := 0) (n := szA t p) hb.2 (by omega)
  rw [Nat.add_zero] at e0
  rw [← e0]
  refine ofK_yes (by omega) (sub_whole ht) (fun q hq => ?_) (fun q hq => ?_) ?_
  · rw [hl] at hq
    rw [subT_get hb.2 hq]; exact h3 _ (by omega)
  · rw [hl] at hq
    exact sub_srt ht hq (h4 _ (by omega))
  · have e := sub_dp ht (szA t (p + 0)) 0 (by omega) (Nat.le_refl _)
    rw [Nat.add_zero] at e
    obtain ⟨w1, w2⟩ := h2.tm
    have := dp_in (szA t 0) 0 (Nat.le_refl _) w1 p (Nat.zero_le _) (by rw [w2]; omega)
    omega

end Go.Proofs.YtgeneoamngfomaaGreatDoor

namespace Go.Proofs.YtgeneoamngfomaaGreatDoor
open Go.RowKit Go.Lib
set_option linter.unusedVariables false
set_option linter.unusedSimpArgs false

end Go.Proofs.YtgeneoamngfomaaGreatDoor

namespace Go.Proofs.YtgeneoamngfomaaGreatDoor
open Go.RowKit Go.Lib
set_option linter.unusedVariables false

def aA (t : List Nd) (i : Nat) : Int := (t.getD i default).a
def bA (t : List Nd) (i : Nat) : Int := (t.getD i default).b

/-- Is a key among those of the first nodes? -/
def isN (t : List Nd) (p : Int → Bool) (m : Nat) : Nat → Bool
  | 0 => false
  | i + 1 => isN t p m i || (p (opA t i) && decide (aA t i = (m : Int)))
/-- The keys of nodes of some ops, rising. -/
def kyN (t : List Nd) (p : Int → Bool) : Nat → List Int
  | 0 => []
  | m + 1 => kyN t p m ++ (if isN t p m t.length then [(m : Int)] else [])
theorem kyN_len (t : List Nd) (p : Int → Bool) : ∀ k, (kyN t p k).length ≤ k
  | 0 => Nat.le_refl _
  | k + 1 => by
    have := kyN_len t p k
    rw [kyN, List.length_append]
    split
    · simp; omega
    · simp; omega
theorem kyN_mem (t : List Nd) (p : Int → Bool) (x : Int) : ∀ k, x ∈ kyN t p k ↔ ∃ m : Nat, m < k ∧ x = (m : Int) ∧ isN t p m t.length = true
  | 0 => by simp [kyN]
  | k + 1 => by
    rw [kyN, List.mem_append, kyN_mem t p x k]
    constructor
    · rintro (⟨i, h1, h2, h3⟩ | h)
      · exact ⟨i, by omega, h2, h3⟩
      · by_cases hp : isN t p k t.length = true
        · rw [if_pos hp] at h
          exact ⟨k, by omega, by simpa using h, hp⟩
        · rw [if_neg hp] at h
          simp at h
    · rintro ⟨i, h1, h2, h3⟩
      by_cases e : i = k
      · subst e
        right
        rw [if_pos h3]
        simp [h2]
      · left
        exact ⟨i, by omega, h2, h3⟩
/-- What a contract's fields are. -/
theorem fld_key {t : List Nd} (h : ∀ p, p < t.length → fldO (t.getD p default) = true) {i : Nat} (hi : i < t.length) (ho : opA t i = 2 ∨ opA t i = 16 ∨ opA t i = 17) : 0 ≤ aA t i ∧ aA t i < 64 := by
  have hf := h i hi
  unfold fldO at hf
  have h1 : fldA (ixO (t.getD i default).op) (t.getD i default) = true := by
    rw [Bool.and_eq_true, Bool.and_eq_true] at hf; exact hf.1.1
  have h2 : (t.getD i default).op = opA t i := rfl
  unfold fldA at h1
  rw [h2, decide_eq_true_eq] at h1
  unfold aA
  obtain ⟨h3, h4⟩ := h1
  rcases ho with e | e | e
  · rw [e, show maN (ixO 2) = 63 by decide] at h4; exact ⟨h3, by omega⟩
  · rw [e, show maN (ixO 16) = 63 by decide] at h4; exact ⟨h3, by omega⟩
  · rw [e, show maN (ixO 17) = 63 by decide] at h4; exact ⟨h3, by omega⟩

end Go.Proofs.YtgeneoamngfomaaGreatDoor

namespace Go.Proofs.YtgeneoamngfomaaGreatDoor
open Go.RowKit Go.Lib
set_option linter.unusedVariables false

theorem chk_mk {t : List Nd} (hk : chkK t = 0) : (ofK t).2 = 0 ∧ mkO (opA t 0) = 2 := by
  unfold chkK at hk
  by_cases h1 : (ofK t).2 ≠ 0
  · rw [if_pos h1] at hk; exact absurd hk h1
  · rw [if_neg h1] at hk
    have h2 : (ofK t).2 = 0 := by omega
    refine ⟨h2, ?_⟩
    by_cases h3 : (ofK t).1 = 2
    · obtain ⟨k1, k2, k3, k4, k5⟩ := ofK_zero h2
      rw [ofK_yes k1 k2 k3 k4 k5] at h3
      exact h3
    · rw [if_neg h3] at hk; cases hk
end Go.Proofs.YtgeneoamngfomaaGreatDoor

namespace Go.Proofs.YtgeneoamngfomaaGreatDoor
open Go.RowKit Go.Lib
set_option linter.unusedVariables false
set_option linter.unusedSimpArgs false

/-- Is it one of two ops? -/
def pT (o1 o2 : Int) (x : Int) : Bool := decide (x = o1) || decide (x = o2)
end Go.Proofs.YtgeneoamngfomaaGreatDoor

/-
  Package facts: places as keys; facts as they lie in memory.
-/
import Derived.Test.YtgeneoamngfomaaGreatDoorLo
import Derived.Test.YtgeneoamngfomaaGreatDoorRtA
import Derived.Maps.OwnSet
import Derived.Maps.OwnOps
import Derived.Maps.RangeWalk
import Derived.DeepKeys4
import Derived.Lib.Hide
import Derived.StillTailTactics
import Derived.Carry
import Derived.BigQuiet
import Derived.Maps.AppendAt
namespace Go.Proofs.YtgeneoamngfomaaGreatDoor
open Go.RowKit Go.Lib Go.Maps
set_option linter.unusedVariables false
set_option linter.unusedSimpArgs false

theorem ltF {w : World} {b i : Nat} {v : Value} (h : w.cell? ⟨b, i, none⟩ = some v) : b < w.heap.size := by
  rcases Nat.lt_or_ge b w.heap.size with hb | hb
  · exact hb
  · rw [World.cell?, Array.getElem?_eq_none (by simpa using hb)] at h; cases h
theorem newF (w : World) (o : Obj) : Below w.heap.size w (w.alloc o) := Below.alloc (Below.refl _ _) (Nat.le_refl _) _
theorem onF {w w1 w2 : World} (h : Below w.heap.size w w1) (h' : Below w1.heap.size w1 w2) : Below w.heap.size w w2 := h.trans (h'.mono h.size)
theorem fc_laidOut : laidOutB Tryz.prog = true := by kernel_rfl
theorem plc_row : (155 : TypeId) < Tryz.prog.types.size := of_decide_eq_true (by kernel_rfl)
theorem plc_wide : (match Tryz.prog.underlying 155 with | some (.array _ _) | some (.struct _) => true | _ => false) = true := by kernel_rfl
set_option maxRecDepth 100000 in
theorem plc_law : Keyed Tryz.prog 155 := Keyed.of_law (deep_law_laid fc_laidOut (m := 2) (by omega) plc_row (by kernel_rfl) plc_wide)
/-- A number of 64 bits. -/
def I64 (a : Int) : Prop := -9223372036854775808 ≤ a ∧ a ≤ 9223372036854775807
theorem wf64 {a : Int} (h : I64 a) : (Lit.int .i64 a).wf = true := by
  unfold Lit.wf
  rw [Bool.and_eq_true, decide_eq_true_iff, decide_eq_true_iff]
  exact h
theorem ex_succ {n k : Nat} (h : k < n) : ∃ q, n = q + 1 := ⟨n - 1, by omega⟩
def plv (a b : Int) : Value := .agg #[.int .i64 a, .int .i64 b]
def plk (a b : Int) : Lit := .string (keyBytes [.int .i64 a, .int .i64 b])
theorem plc_lits {a b : Int} (ha : (Lit.int .i64 a).wf = true) (hb : (Lit.int .i64 b).wf = true) : Tryz.prog.keyLits (Tryz.prog.types.size + 1) 155 [.int .i64 a, .int .i64 b] = some [.int .i64 a, .int .i64 b] := by
  obtain ⟨q, hq⟩ : ∃ q, Tryz.prog.types.size = q + 1 := ex_succ plc_row
  rw [hq]
  have hc : Tryz.prog.cellsOf 3 = 1 := by kernel_rfl
  have hc2 : Tryz.prog.cellsOf 155 = 2 := by kernel_rfl
  have hi : ∀ a : Int, (Lit.int .i64 a).wf = true → Tryz.prog.keyLits (q + 1) 3 [.int .i64 a] = some [.int .i64 a] := fun a h => by
    simp [Program.keyLits, Tryz.underlying3, h]
  unfold Program.keyLits
  simp [Tryz.underlying155, hc, hc2, hi _ ha, hi _ hb]
theorem plc_key {a b : Int} (ha : I64 a) (hb : I64 b) : keyOf Tryz.prog 155 (plv a b) = some (plk a b) := by
  have hl := plc_lits (wf64 ha) (wf64 hb)
  have hk : Tryz.prog.keyType 155 = true := by kernel_rfl
  have hc2 : Tryz.prog.cellsOf 155 = 2 := by kernel_rfl
  have hf : (plv a b).formed Tryz.prog 155 = true := by
    unfold plv
    simp [Value.formed, Tryz.underlying155, hc2]
  unfold keyOf
  rw [Tryz.underlying155]
  dsimp only
  rw [hk, hf]
  show (if (true && true) = true then (Tryz.prog.keyLits (Tryz.prog.types.size + 1) 155 [.int .i64 a, .int .i64 b]).map _ else none) = _
  rw [hl]
  rfl
theorem plk_inj {a b c d : Int} (ha : I64 a) (hb : I64 b) (hc : I64 c) (hd : I64 d) (h : plk a b = plk c d) : a = c ∧ b = d := by
  have h1 := plc_key ha hb
  have h2 := plc_key hc hd
  rw [← h] at h2
  have := plc_law.inj h1 h2
  unfold plv at this
  simp at this
  exact this

end Go.Proofs.YtgeneoamngfomaaGreatDoor

namespace Go.Proofs.YtgeneoamngfomaaGreatDoor
open Go.RowKit Go.Lib Go.Maps
set_option linter.unusedVariables false
set_option linter.unusedSimpArgs false

/-- How elements read. -/
noncomputable def ratPair : List Value → Option (DataW Unit × List MemPlace)
  | [.int .i64 n, .int .i64 d] => some (.agg [.lit (.int .i64 n), .lit (.int .i64 d)], [])
  | _ => none
noncomputable def ratElem (v : Value) : Option (DataW Unit × List MemPlace) := match v with
  | .agg cs => ratPair cs.toList
  | _ => none
def ratD (n d : Int) : DataW Unit := .agg [.lit (.int .i64 n), .lit (.int .i64 d)]
theorem ratElem_mk (n d : Int) : ratElem (.agg #[.int .i64 n, .int .i64 d]) = some (ratD n d, []) := rfl
theorem ratElem_inv {v : Value} {x : DataW Unit} {ps : List MemPlace} (h : ratElem v = some (x, ps)) : ∃ n d, v = .agg #[.int .i64 n, .int .i64 d] ∧ x = ratD n d := by
  unfold ratElem at h
  cases v <;> try (cases h; done)
  rename_i cs
  dsimp only at h
  unfold ratPair at h
  split at h
  · rename_i n d hl
    injection h with h
    injection h with h1 h2
    exact ⟨n, d, by congr 1; exact Array.toList_inj.1 hl, h1.symm⟩
  · cases h
noncomputable abbrev intElem : Value → Option (DataW Unit × List MemPlace) := plainElem Tryz.prog 3
def intD (n : Int) : DataW Unit := .lit (.int .i64 n)
theorem rat_zero (w : World) : (zeroValue 58).run Tryz.prog w = .ok (.agg #[.int .i64 0, .int .i64 0]) w := by kernel_rfl
theorem int_zero (w : World) : (zeroValue 3).run Tryz.prog w = .ok (.int .i64 0) w := by kernel_rfl

/-- Facts in memory. -/
structure FacM (w : World) (B bf bc n : Nat) (Df Dc : DataW Unit) : Prop where
  c0 : w.cell? ⟨B, 0, none⟩ = some (.map (some bf))
  c1 : w.cell? ⟨B, 1, none⟩ = some (.map (some bc))
  hf : w.ownsMap Tryz.prog 155 ratElem bf n Df
  hc : w.ownsMap Tryz.prog 155 intElem bc n Dc
  ne : bf ≠ bc
  nf : bf ≠ B
  nc : bc ≠ B
theorem FacM.blt {w : World} {B bf bc n : Nat} {Df Dc : DataW Unit} (h : FacM w B bf bc n Df Dc) : B < w.heap.size := ltF h.c0
theorem FacM.grown {w w' : World} {B bf bc n : Nat} {Df Dc : DataW Unit} (h : FacM w B bf bc n Df Dc) {row : Option Nat} (hg : w.grownBy w' row) (h0 : some B ≠ row) (h1 : some bf ≠ row) (h2 : some bc ≠ row) : FacM w' B bf bc n Df Dc :=
  ⟨(World.cell?_of_block (hg.block B h.blt h0)).trans h.c0, (World.cell?_of_block (hg.block B h.blt h0)).trans h.c1, h.hf.kept hg h1, h.hc.kept hg h2, h.ne, h.nf, h.nc⟩
theorem grown_below {w w' : World} (h : Below w.heap.size w w') : w.grownBy w' none := ⟨h.os, h.tape, h.output, h.size, fun k hk _ => h.block k hk⟩
theorem FacM.keep {w w' : World} {B bf bc n : Nat} {Df Dc : DataW Unit} (h : FacM w B bf bc n Df Dc) (hb : Below w.heap.size w w') : FacM w' B bf bc n Df Dc := h.grown (grown_below hb) (by simp) (by simp) (by simp)
theorem FacM.mono {w : World} {B bf bc n m : Nat} {Df Dc : DataW Unit} (h : FacM w B bf bc n Df Dc) (hn : n ≤ m) : FacM w B bf bc m Df Dc := ⟨h.c0, h.c1, h.hf.mono hn, h.hc.mono hn, h.ne, h.nf, h.nc⟩
/-- Behind a store into the fixings. -/
theorem FacM.fixed {w w' : World} {B bf bc n : Nat} {Df Df' Dc : DataW Unit} (h : FacM w B bf bc n Df Dc) (hg : w.grownBy w' (some bf)) (ho : w'.ownsMap Tryz.prog 155 ratElem bf (n + 1) Df') : FacM w' B bf bc (n + 1) Df' Dc :=
  ⟨(World.cell?_of_block (hg.block B h.blt (fun e => h.nf (by injection e with e; exact e.symm)))).trans h.c0, (World.cell?_of_block (hg.block B h.blt (fun e => h.nf (by injection e with e; exact e.symm)))).trans h.c1, ho, (h.hc.kept hg (fun e => h.ne (by injection e with e; exact e.symm))).mono (Nat.le_succ n), h.ne, h.nf, h.nc⟩
theorem FacM.chosen {w w' : World} {B bf bc n : Nat} {Df Dc Dc' : DataW Unit} (h : FacM w B bf bc n Df Dc) (hg : w.grownBy w' (some bc)) (ho : w'.ownsMap Tryz.prog 155 intElem bc (n + 1) Dc') : FacM w' B bf bc (n + 1) Df Dc' :=
  ⟨(World.cell?_of_block (hg.block B h.blt (fun e => h.nc (by injection e with e; exact e.symm)))).trans h.c0, (World.cell?_of_block (hg.block B h.blt (fun e => h.nc (by injection e with e; exact e.symm)))).trans h.c1, (h.hf.kept hg (fun e => h.ne (by injection e))).mono (Nat.le_succ n), ho, h.ne, h.nf, h.nc⟩

set_option maxHeartbeats 1000000 in
set_option maxRecDepth 100000 in
theorem fnew_any (w : World) : Calls Tryz.prog 20 #[] w fun e w' => ∃ B bf bc, e = .returned (.pointer (some ⟨B, 0, none⟩)) ∧ FacM w' B bf bc 0 (.map []) (.map []) ∧ w.heap.size ≤ B ∧ w.heap.size ≤ bf ∧ w.heap.size ≤ bc ∧ Below w.heap.size w w' := by
  have hmm := @run_makeMap Tryz.prog
  go_enter Tryz.func20, Tryz.ntmps20
  go_wp2_with fail
  go_ret
  refine ⟨w.heap.size + 1 + 1, w.heap.size, w.heap.size + 1, rfl, ⟨?_, ?_, ?_, ?_, ?_, ?_, ?_⟩, ?_, ?_, ?_, ?_⟩
  · rw [World.cell?_alloc_at _ _ _ _ (by simp)]; rfl
  · rw [World.cell?_alloc_at _ _ _ _ (by simp)]; rfl
  · exact ((World.ownsMap_made w _ _ _).alloc _).alloc _
  · have := World.ownsMap_made (w.alloc (.map #[] 0)) Tryz.prog 155 intElem
    rw [show (w.alloc (.map #[] 0)).heap.size = w.heap.size + 1 by simp] at this
    exact this.alloc _
  · omega
  · omega
  · omega
  · omega
  · omega
  · omega
  · exact onF (onF (newF _ _) (newF _ _)) (newF _ _)
/-- What is wrong with a place. -/
def plcE (k d : Int) : Int := if k < 0 ∨ 63 < k then 10 else if d < 0 ∨ 73048 < d then 18 else 0
set_option maxHeartbeats 1000000 in
set_option maxRecDepth 100000 in
theorem chkplc_any (k d : Int) (w : World) : Calls Tryz.prog 76 #[.int .i64 k, .int .i64 d] w fun e w' => e = .returned (.int .i64 (plcE k d)) ∧ w = w' := by
  unfold plcE
  by_cases a1 : k < 0
  · rw [if_pos (.inl a1)]
    go_enter Tryz.func76, Tryz.ntmps76
    go_wp2_with fail
    go_ret
    exact ⟨rfl, rfl⟩
  by_cases a2 : 63 < k
  · rw [if_pos (.inr a2)]
    go_enter Tryz.func76, Tryz.ntmps76
    go_wp2_with fail
    go_ret
    exact ⟨rfl, rfl⟩
  rw [if_neg (fun h => h.elim a1 a2)]
  by_cases b1 : d < 0
  · rw [if_pos (.inl b1)]
    go_enter Tryz.func76, Tryz.ntmps76
    go_wp2_with fail
    go_ret
    exact ⟨rfl, rfl⟩
  by_cases b2 : 73048 < d
  · rw [if_pos (.inr b2)]
    go_enter Tryz.func76, Tryz.ntmps76
    go_wp2_with fail
    go_ret
    exact ⟨rfl, rfl⟩
  rw [if_neg (fun h => h.elim b1 b2)]
  go_enter Tryz.func76, Tryz.ntmps76
  go_wp2_with fail
  go_ret
  exact ⟨rfl, rfl⟩

/-- What is wrong with a fixing. -/
def fixE (k d x y : Int) : Int := if plcE k d = 0 then chkE x y else plcE k d
set_option maxHeartbeats 2000000 in
set_option maxRecDepth 100000 in
theorem ffix_any (w : World) {B bf bc n : Nat} {Df Dc : DataW Unit} (h : FacM w B bf bc n Df Dc) (hn : n < maxLen) (k d x y : Int) (hk : I64 k) (hd : I64 d) (hx : I64 x) (hy : I64 y) :
    Calls Tryz.prog 48 #[.pointer (some ⟨B, 0, none⟩), .agg #[.int .i64 k, .int .i64 d, .int .i64 x, .int .i64 y]] w fun e w' => e = .returned (.int .i64 (fixE k d x y)) ∧ FacM w' B bf bc (n + 1) (if fixE k d x y = 0 then Df.put (plk k d) (ratD x y) else Df) Dc ∧ w.grownBy w' (some bf) := by
  have hb0 := newF w (.cells #[.int .i64 k, .int .i64 d, .int .i64 x, .int .i64 y] 125)
  have HM := Lib.hid (h.keep hb0)
  have HB := Lib.hid hb0
  have HN := Lib.hid hn
  have HKey := Lib.hid (plc_key hk hd)
  have HPl := Lib.hid (fun w' => chkplc_any k d w')
  have HCk := Lib.hid (fun w' => check_any x y w' hx.1 hx.2 hy.1 hy.2)
  clear h hb0 hn hk hd hx hy
  by_cases p0 : plcE k d = 0
  · rw [p0] at HPl
    by_cases c0 : chkE x y = 0
    · have e : fixE k d x y = 0 := by unfold fixE; rw [if_pos p0, c0]
      rw [e, if_pos rfl]
      rw [c0] at HCk
      clear e p0 c0
      go_enter Tryz.func48, Tryz.ntmps48
      go_wp2_with fail
      refine (HPl.out _).mono ?_
      rintro e w1 ⟨rfl, rfl⟩
      clear HPl
      go_wp2_with fail
      refine (HCk.out _).mono ?_
      rintro e w2 ⟨rfl, hb2⟩
      have HM2 := Lib.hid (HM.out.keep hb2)
      have HB2 := Lib.hid (onF HB.out hb2)
      have hbk := World.cell?_of_block (a := ⟨w.heap.size, 0, none⟩) (hb2.block w.heap.size (by simp))
      have hbk1 := World.cell?_of_block (a := ⟨w.heap.size, 1, none⟩) (hb2.block w.heap.size (by simp))
      have hbk2 := World.cell?_of_block (a := ⟨w.heap.size, 2, none⟩) (hb2.block w.heap.size (by simp))
      have hbk3 := World.cell?_of_block (a := ⟨w.heap.size, 3, none⟩) (hb2.block w.heap.size (by simp))
      rw [World.cell?_alloc_at _ _ _ _ rfl] at hbk hbk1 hbk2 hbk3
      have k0 : w2.cell? ⟨w.heap.size, 0, none⟩ = some (.int .i64 k) := hbk
      have k1 : w2.cell? ⟨w.heap.size, 1, none⟩ = some (.int .i64 d) := hbk1
      have k2 : w2.cell? ⟨w.heap.size, 2, none⟩ = some (.int .i64 x) := hbk2
      have k3 : w2.cell? ⟨w.heap.size, 3, none⟩ = some (.int .i64 y) := hbk3
      have m0 := HM2.out.c0
      clear hb2 hbk hbk1 hbk2 hbk3 HCk HM HB
      go_upto_region 9 with fail
      go_still_tail 11, (by kernel_rfl)
      change wpList _ _ _ _ _ w2.drew
      have HM3 := Lib.hid (HM2.out.keep (Below.drew (Below.refl _ _)))
      have HB3 := Lib.hid (Below.drew HB2.out)
      have hown := HM3.out.hf
      clear k0 k1 k2 k3 m0 HM2 HB2
      generalize w2.drew = w3 at *
      refine wpList_mapUpdate_own _ rfl _ _ _ 115 rfl 155 58 plc_law Tryz.underlying115 ratElem bf n Df rfl hown HN.out (plv k d) _ (plk k d) rfl rfl HKey.out _ [] (ratElem_mk x y) ?_
      intro w4 ho hg
      have HM4 := Lib.hid (HM3.out.fixed hg ho)
      have HG4 := Lib.hid (((grown_below HB3.out).but (some bf)).trans hg)
      clear ho hg hown
      go_wp2_with fail
      go_ret
      exact ⟨rfl, HM4.out, HG4.out⟩
    · have e : fixE k d x y = chkE x y := by unfold fixE; rw [if_pos p0]
      rw [e, if_neg c0]
      generalize chkE x y = ce at *
      have e1 : (ce == 0) = false := beq_false_of_ne c0
      clear e p0 c0
      go_enter Tryz.func48, Tryz.ntmps48
      go_wp2_with fail
      refine (HPl.out _).mono ?_
      rintro e w1 ⟨rfl, rfl⟩
      clear HPl
      go_wp2_with fail
      refine (HCk.out _).mono ?_
      rintro e w2 ⟨rfl, hb2⟩
      have HM2 := Lib.hid (HM.out.keep hb2)
      have HB2 := Lib.hid (onF HB.out hb2)
      clear hb2
      go_wp2_with fail
      go_ret
      exact ⟨rfl, HM2.out.mono (Nat.le_succ n), (grown_below HB2.out).but _⟩
  · have e : fixE k d x y = plcE k d := by unfold fixE; rw [if_neg p0]
    rw [e, if_neg p0]
    generalize plcE k d = pe at *
    have e1 : (pe == 0) = false := beq_false_of_ne p0
    clear e p0
    go_enter Tryz.func48, Tryz.ntmps48
    go_wp2_with fail
    refine (HPl.out _).mono ?_
    rintro e w1 ⟨rfl, rfl⟩
    clear HPl
    go_wp2_with fail
    go_ret
    exact ⟨rfl, HM.out.mono (Nat.le_succ n), (grown_below HB.out).but _⟩

/-- What is wrong with a choice. -/
def choE (k d p : Int) : Int := if p < 1 ∨ 2 < p then 10 else plcE k d
theorem int_mk {p : Int} (h : I64 p) : intElem (.int .i64 p) = some (intD p, []) := plainElem_int Tryz.underlying3 (wf64 h)
set_option maxHeartbeats 2000000 in
set_option maxRecDepth 100000 in
theorem fchoose_any (w : World) {B bf bc n : Nat} {Df Dc : DataW Unit} (h : FacM w B bf bc n Df Dc) (hn : n < maxLen) (k d p : Int) (hk : I64 k) (hd : I64 d) (hp : I64 p) :
    Calls Tryz.prog 47 #[.pointer (some ⟨B, 0, none⟩), .agg #[.int .i64 k, .int .i64 d, .int .i64 p]] w fun e w' => e = .returned (.int .i64 (choE k d p)) ∧ FacM w' B bf bc (n + 1) Df (if choE k d p = 0 then Dc.put (plk k d) (intD p) else Dc) ∧ w.grownBy w' (some bc) := by
  have hb0 := newF w (.cells #[.int .i64 k, .int .i64 d, .int .i64 p] 122)
  have HM := Lib.hid (h.keep hb0)
  have HB := Lib.hid hb0
  have HN := Lib.hid hn
  have HKey := Lib.hid (plc_key hk hd)
  have HPm := Lib.hid (int_mk hp)
  have HPl := Lib.hid (fun w' => chkplc_any k d w')
  clear h hb0 hn hk hd hp
  by_cases q1 : p < 1
  · have e : choE k d p = 10 := by unfold choE; rw [if_pos (.inl q1)]
    rw [e, if_neg (by decide)]
    clear e
    go_enter Tryz.func47, Tryz.ntmps47
    go_wp2_with fail
    go_ret
    exact ⟨rfl, HM.out.mono (Nat.le_succ n), (grown_below HB.out).but _⟩
  by_cases q2 : 2 < p
  · have e : choE k d p = 10 := by unfold choE; rw [if_pos (.inr q2)]
    rw [e, if_neg (by decide)]
    clear e
    go_enter Tryz.func47, Tryz.ntmps47
    go_wp2_with fail
    go_ret
    exact ⟨rfl, HM.out.mono (Nat.le_succ n), (grown_below HB.out).but _⟩
  have e : choE k d p = plcE k d := by unfold choE; rw [if_neg (fun h => h.elim q1 q2)]
  rw [e]
  clear e
  generalize plcE k d = pe at *
  by_cases p0 : pe = 0
  · subst p0
    rw [if_pos rfl]
    go_enter Tryz.func47, Tryz.ntmps47
    go_wp2_with fail
    refine (HPl.out _).mono ?_
    rintro e w1 ⟨rfl, rfl⟩
    clear HPl
    have k0 : (w.alloc (.cells #[.int .i64 k, .int .i64 d, .int .i64 p] 122)).cell? ⟨w.heap.size, 0, none⟩ = some (.int .i64 k) := by rw [World.cell?_alloc_at _ _ _ _ rfl]; rfl
    have k1 : (w.alloc (.cells #[.int .i64 k, .int .i64 d, .int .i64 p] 122)).cell? ⟨w.heap.size, 1, none⟩ = some (.int .i64 d) := by rw [World.cell?_alloc_at _ _ _ _ rfl]; rfl
    have k2 : (w.alloc (.cells #[.int .i64 k, .int .i64 d, .int .i64 p] 122)).cell? ⟨w.heap.size, 2, none⟩ = some (.int .i64 p) := by rw [World.cell?_alloc_at _ _ _ _ rfl]; rfl
    have m1 := HM.out.c1
    go_upto_region 8 with fail
    generalize w.alloc (.cells #[.int .i64 k, .int .i64 d, .int .i64 p] 122) = w2 at *
    have HM3 := Lib.hid (HM.out.keep (Below.drew (Below.refl _ _)))
    have HB3 := Lib.hid (Below.drew HB.out)
    go_still_tail 11, (by kernel_rfl)
    change wpList _ _ _ _ _ w2.drew
    have hown := HM3.out.hc
    clear m1 HM HB q1 q2 k0 k1 k2
    generalize w2.drew = w3 at *
    refine wpList_mapUpdate_own _ rfl _ _ _ 117 rfl 155 3 plc_law Tryz.underlying117 intElem bc n Dc rfl hown HN.out (plv k d) _ (plk k d) rfl rfl HKey.out _ [] HPm.out ?_
    intro w4 ho hg
    have HM4 := Lib.hid (HM3.out.chosen hg ho)
    have HG4 := Lib.hid (((grown_below HB3.out).but (some bc)).trans hg)
    clear ho hg hown
    go_wp2_with fail
    go_ret
    exact ⟨rfl, HM4.out, HG4.out⟩
  · rw [if_neg p0]
    have e1 : (pe == 0) = false := beq_false_of_ne p0
    clear p0
    go_enter Tryz.func47, Tryz.ntmps47
    go_wp2_with fail
    refine (HPl.out _).mono ?_
    rintro e w1 ⟨rfl, rfl⟩
    clear HPl
    go_wp2_with fail
    go_ret
    exact ⟨rfl, HM.out.mono (Nat.le_succ n), (grown_below HB.out).but _⟩

end Go.Proofs.YtgeneoamngfomaaGreatDoor

namespace Go.Proofs.YtgeneoamngfomaaGreatDoor
open Go.RowKit Go.Lib Go.Maps
set_option linter.unusedVariables false
set_option linter.unusedSimpArgs false

set_option maxRecDepth 100000 in
theorem ornone_any (a : Addr) (w : World) : Calls Tryz.prog 123 #[.pointer (some a)] w fun e w' => e = .returned (.pointer (some a)) ∧ w = w' := by
  go_enter Tryz.func123, Tryz.ntmps123
  go_wp2_with fail
  go_ret
  exact ⟨rfl, rfl⟩
set_option maxHeartbeats 1000000 in
set_option maxRecDepth 100000 in
theorem findr_any (w : World) {bf n : Nat} {Df : DataW Unit} (h : w.ownsMap Tryz.prog 155 ratElem bf n Df) (k d : Int) (hk : I64 k) (hd : I64 d) :
    Calls Tryz.prog 172 #[.map (some bf), .int .i64 k, .int .i64 d] w fun e w' => ∃ x y, e = .returned (.tuple #[.agg #[.int .i64 x, .int .i64 y], .bool (Maps.has Df (plk k d))]) ∧ Df.atKey (plk k d) (ratD 0 0) = ratD x y ∧ Below w.heap.size w w' := by
  have hown := h.alloc (.cells #[.int .i64 0, .int .i64 0] 58)
  have HKey := Lib.hid (plc_key hk hd)
  clear h hk hd
  go_enter Tryz.func172, Tryz.ntmps172
  go_wp2_with (at_lookup; refine wpList_lookup_own_ok _ rfl _ _ 115 rfl 155 58 plc_law Tryz.underlying115 ratElem (rat_zero _) (ratD 0 0) [] (ratElem_mk 0 0) bf n Df rfl hown (plv k d) _ rfl HKey.out ?_; intro v ps hv; obtain ⟨x, y, rfl, hx⟩ := ratElem_inv hv; have HX := Lib.hid hx; clear hv hx hown)
  exact bodyPost_ret (v := .tuple #[.agg #[.int .i64 x, .int .i64 y], .bool (Maps.has Df (plk k d))]) (by simp [results, Tryz.results172, go_sem]) rfl ⟨x, y, rfl, HX.out, onF (newF _ _) (newF _ _)⟩
set_option maxHeartbeats 1000000 in
set_option maxRecDepth 100000 in
theorem findi_any (w : World) {bc n : Nat} {Dc : DataW Unit} (h : w.ownsMap Tryz.prog 155 intElem bc n Dc) (k d : Int) (hk : I64 k) (hd : I64 d) :
    Calls Tryz.prog 152 #[.map (some bc), .int .i64 k, .int .i64 d] w fun e w' => ∃ x, e = .returned (.tuple #[.int .i64 x, .bool (Maps.has Dc (plk k d))]) ∧ Dc.atKey (plk k d) (intD 0) = intD x ∧ Below w.heap.size w w' := by
  have hown := h
  have HKey := Lib.hid (plc_key hk hd)
  clear h hk hd
  go_enter Tryz.func152, Tryz.ntmps152
  go_wp2_with (at_lookup; refine wpList_lookup_own_ok_int _ rfl _ _ 117 rfl 155 3 .i64 plc_law Tryz.underlying117 Tryz.underlying3 (int_zero _) bc n Dc rfl hown (plv k d) _ rfl HKey.out ?_; intro c hat hwc; have HX := Lib.hid hat; clear hat hown)
  exact bodyPost_ret (v := .tuple #[.int .i64 c, .bool (Maps.has Dc (plk k d))]) (by simp [results, Tryz.results152, go_sem]) rfl ⟨c, rfl, HX.out, Below.refl _ _⟩

set_option maxHeartbeats 1000000 in
set_option maxRecDepth 100000 in
theorem fixing_any (w : World) {B bf bc n : Nat} {Df Dc : DataW Unit} (h : FacM w B bf bc n Df Dc) (k d : Int) (hk : I64 k) (hd : I64 d) :
    Calls Tryz.prog 164 #[.pointer (some ⟨B, 0, none⟩), .int .i64 k, .int .i64 d] w fun e w' => ∃ x y, e = .returned (.tuple #[.agg #[.int .i64 x, .int .i64 y], .bool (Maps.has Df (plk k d))]) ∧ Df.atKey (plk k d) (ratD 0 0) = ratD x y ∧ Below w.heap.size w w' := by
  have hb0 := newF w (.cells #[.int .i64 0, .int .i64 0] 58)
  have HM := Lib.hid (h.keep hb0)
  have c0 := (h.keep hb0).c0
  have HO := Lib.hid (fun a w' => ornone_any a w')
  have HFd := Lib.hid (findr_any _ (h.keep hb0).hf k d hk hd)
  have HB := Lib.hid hb0
  have v0 : (w.alloc (.cells #[.int .i64 0, .int .i64 0] 58)).cell? ⟨w.heap.size, 0, none⟩ = some (.int .i64 0) := by rw [World.cell?_alloc_at _ _ _ _ rfl]; rfl
  have v1 : (w.alloc (.cells #[.int .i64 0, .int .i64 0] 58)).cell? ⟨w.heap.size, 1, none⟩ = some (.int .i64 0) := by rw [World.cell?_alloc_at _ _ _ _ rfl]; rfl
  have vz : ∀ i, (w.alloc (.cells #[.int .i64 0, .int .i64 0] 58)).frozen? ⟨w.heap.size, i, none⟩ = false := fun i => World.frozen?_alloc_at _ _ _ _ rfl
  have HV := Lib.hid (And.intro v0 (And.intro v1 vz))
  have hsz : w.heap.size < (w.alloc (.cells #[.int .i64 0, .int .i64 0] 58)).heap.size := by simp
  have HSz := Lib.hid hsz
  clear v0 v1 vz hsz
  clear h hb0 hk hd
  go_enter Tryz.func164, Tryz.ntmps164
  go_wp2_with fail
  refine (HO.out _ _).mono ?_
  rintro e w1 ⟨rfl, rfl⟩
  clear HO
  generalize w.alloc (.cells #[.int .i64 0, .int .i64 0] 58) = w1 at *
  go_wp2_with fail
  refine (HFd.out).mono ?_
  rintro e w2 ⟨x, y, rfl, hx, hb2⟩
  have HB2 := Lib.hid (onF HB.out hb2)
  have HX := Lib.hid hx
  have v0 : w2.cell? ⟨w.heap.size, 0, none⟩ = some (.int .i64 0) := (World.cell?_of_block (hb2.block _ HSz.out)).trans HV.out.1
  have v1 : w2.cell? ⟨w.heap.size, 1, none⟩ = some (.int .i64 0) := (World.cell?_of_block (hb2.block _ HSz.out)).trans HV.out.2.1
  have z0 : w2.frozen? ⟨w.heap.size, 0, none⟩ = false := (World.frozen?_of_block (hb2.block _ HSz.out)).trans (HV.out.2.2 0)
  have z1 : w2.frozen? ⟨w.heap.size, 1, none⟩ = false := (World.frozen?_of_block (hb2.block _ HSz.out)).trans (HV.out.2.2 1)
  clear hb2 hx HFd c0
  go_wp2_with fail
  exact bodyPost_ret (v := .tuple #[.agg #[.int .i64 x, .int .i64 y], .bool (Maps.has Df (plk k d))]) (by simp [results, Tryz.results164, go_sem, v0, v1]) rfl ⟨x, y, rfl, HX.out, Below.setCell (Below.setCell HB2.out (Nat.le_refl _) _) (Nat.le_refl _) _⟩
set_option maxHeartbeats 1000000 in
set_option maxRecDepth 100000 in
theorem choice_any (w : World) {B bf bc n : Nat} {Df Dc : DataW Unit} (h : FacM w B bf bc n Df Dc) (k d : Int) (hk : I64 k) (hd : I64 d) :
    Calls Tryz.prog 122 #[.pointer (some ⟨B, 0, none⟩), .int .i64 k, .int .i64 d] w fun e w' => ∃ x, e = .returned (.tuple #[.int .i64 x, .bool (Maps.has Dc (plk k d))]) ∧ Dc.atKey (plk k d) (intD 0) = intD x ∧ Below w.heap.size w w' := by
  have c1 := h.c1
  have HO := Lib.hid (fun a w' => ornone_any a w')
  have HFd := Lib.hid (findi_any _ h.hc k d hk hd)
  clear h hk hd
  go_enter Tryz.func122, Tryz.ntmps122
  go_wp2_with fail
  refine (HO.out _ _).mono ?_
  rintro e w1 ⟨rfl, rfl⟩
  clear HO
  go_wp2_with fail
  refine (HFd.out).mono ?_
  rintro e w2 ⟨x, rfl, hx, hb2⟩
  have HB2 := Lib.hid hb2
  have HX := Lib.hid hx
  clear hb2 hx HFd c1
  go_wp2_with fail
  exact bodyPost_ret (v := .tuple #[.int .i64 x, .bool (Maps.has Dc (plk k d))]) (by simp [results, Tryz.results122, go_sem]) rfl ⟨x, rfl, HX.out, HB2.out⟩
/-- A fact that is told. -/
structure Tol where
  c : Bool
  k : Int
  d : Int
  x : Int
  y : Int
  p : Int
def tolV (t : Tol) : Value := .agg #[.bool t.c, .int .i64 t.k, .int .i64 t.d, .int .i64 t.x, .int .i64 t.y, .int .i64 t.p]
def Tol.Ok (t : Tol) : Prop := I64 t.k ∧ I64 t.d ∧ I64 t.x ∧ I64 t.y ∧ I64 t.p
def tolE (t : Tol) : Int := if t.c = true then choE t.k t.d t.p else fixE t.k t.d t.x t.y
noncomputable def tolF (t : Tol) (D : DataW Unit) : DataW Unit := if t.c = true then D else if tolE t = 0 then D.put (plk t.k t.d) (ratD t.x t.y) else D
noncomputable def tolC (t : Tol) (D : DataW Unit) : DataW Unit := if t.c = true then (if tolE t = 0 then D.put (plk t.k t.d) (intD t.p) else D) else D
set_option maxHeartbeats 1000000 in
set_option maxRecDepth 100000 in
theorem tell_any (w : World) {B bf bc n : Nat} {Df Dc : DataW Unit} (h : FacM w B bf bc n Df Dc) (hn : n < maxLen) (t : Tol) (ht : t.Ok) :
    Calls Tryz.prog 21 #[.pointer (some ⟨B, 0, none⟩), tolV t] w fun e w' => e = .returned (.int .i64 (tolE t)) ∧ ∃ row, FacM w' B bf bc (n + 1) (tolF t Df) (tolC t Dc) ∧ w.grownBy w' row ∧ (row = some bf ∨ row = some bc) := by
  obtain ⟨c, k, d, x, y, p⟩ := t
  obtain ⟨hk, hd, hx, hy, hp⟩ := ht
  unfold tolV tolF tolC tolE
  dsimp only at *
  have hb0 := newF w (.cells #[.bool c, .int .i64 k, .int .i64 d, .int .i64 x, .int .i64 y, .int .i64 p] 66)
  have HB := Lib.hid hb0
  cases c with
  | true =>
    have HF := Lib.hid (fchoose_any _ (h.keep hb0) hn k d p hk hd hp)
    simp only [if_true]
    generalize choE k d p = E at *
    generalize (if E = 0 then Dc.put (plk k d) (intD p) else Dc) = D2 at *
    clear h hb0 hn hk hd hx hy hp
    go_enter Tryz.func21, Tryz.ntmps21
    go_wp2_with fail
    refine (HF.out).mono ?_
    rintro e w2 ⟨rfl, hm, hg⟩
    have HM := Lib.hid hm
    have HG := Lib.hid (((grown_below HB.out).but (some bc)).trans hg)
    clear hm hg HF
    go_wp2_with fail
    go_ret
    exact ⟨rfl, some bc, HM.out, HG.out, .inr rfl⟩
  | false =>
    have HF := Lib.hid (ffix_any _ (h.keep hb0) hn k d x y hk hd hx hy)
    simp only [Bool.false_eq_true, if_false]
    generalize fixE k d x y = E at *
    generalize (if E = 0 then Df.put (plk k d) (ratD x y) else Df) = D2 at *
    clear h hb0 hn hk hd hx hy hp
    go_enter Tryz.func21, Tryz.ntmps21
    go_wp2_with fail
    refine (HF.out).mono ?_
    rintro e w2 ⟨rfl, hm, hg⟩
    have HM := Lib.hid hm
    have HG := Lib.hid (((grown_below HB.out).but (some bf)).trans hg)
    clear hm hg HF
    go_wp2_with fail
    go_ret
    exact ⟨rfl, some bf, HM.out, HG.out, .inl rfl⟩

end Go.Proofs.YtgeneoamngfomaaGreatDoor

namespace Go.Proofs.YtgeneoamngfomaaGreatDoor
open Go.RowKit Go.Lib Go.Maps
set_option linter.unusedVariables false
set_option linter.unusedSimpArgs false

theorem keepF {w w' : World} {b i : Nat} {v : Value} (hb : Below w.heap.size w w') (h : w.cell? ⟨b, i, none⟩ = some v) : w'.cell? ⟨b, i, none⟩ = some v := (hb.cell (p := ⟨b, i, none⟩) (ltF h)).trans h
theorem plk_ok {k d : Int} (hk : I64 k) (hd : I64 d) : WideAt.IsKeyLit (plk k d) := plc_law.key (plc_key hk hd)
theorem plk_ne {a b c d : Int} (ha : I64 a) (hb : I64 b) (hc : I64 c) (hd : I64 d) (h : ¬ (a = c ∧ b = d)) : plk a b ≠ plk c d := fun e => h (plk_inj ha hb hc hd e)
theorem ratD_inj {a b c d : Int} (h : ratD a b = ratD c d) : a = c ∧ b = d := by
  unfold ratD at h
  injection h with h
  injection h with h1 h2
  injection h2 with h2 _
  injection h1 with h1
  injection h1 with _ h1
  injection h2 with h2
  injection h2 with _ h2
  exact ⟨h1, h2⟩
theorem intD_inj {a c : Int} (h : intD a = intD c) : a = c := by
  unfold intD at h
  injection h with h
  injection h with _ h
/-- A fact that is told, in a row. -/
structure TolC (w : World) (b p : Nat) (t : Tol) : Prop where
  c0 : w.cell? ⟨b, p, none⟩ = some (.bool t.c)
  c1 : w.cell? ⟨b, p + 1, none⟩ = some (.int .i64 t.k)
  c2 : w.cell? ⟨b, p + 2, none⟩ = some (.int .i64 t.d)
  c3 : w.cell? ⟨b, p + 3, none⟩ = some (.int .i64 t.x)
  c4 : w.cell? ⟨b, p + 4, none⟩ = some (.int .i64 t.y)
  c5 : w.cell? ⟨b, p + 5, none⟩ = some (.int .i64 t.p)
theorem TolC.keep {w w' : World} {b p : Nat} {t : Tol} (h : TolC w b p t) (hb : Below w.heap.size w w') : TolC w' b p t :=
  ⟨keepF hb h.c0, keepF hb h.c1, keepF hb h.c2, keepF hb h.c3, keepF hb h.c4, keepF hb h.c5⟩
instance : Inhabited Tol := ⟨⟨false, 0, 0, 0, 0, 0⟩⟩
/-- A slice of facts that are told. -/
def SlTol (w : World) (v : Value) (L : List Tol) : Prop :=
  (L = [] ∧ ∃ a cap, v = .slice a 0 cap) ∨ (0 < L.length ∧ ∃ b o cap, v = .slice (some ⟨b, o, none⟩) L.length cap ∧ L.length ≤ cap ∧ cap ≤ 9223372036854775807 ∧ ∀ j, j < L.length → TolC w b (o + j * 6) (L.getD j default))
theorem SlTol.keep {w w' : World} {v : Value} {L : List Tol} (h : SlTol w v L) (hb : Below w.heap.size w w') : SlTol w' v L := by
  rcases h with h | ⟨h0, b, o, cap, h1, h2, h3, h4⟩
  · exact .inl h
  · exact .inr ⟨h0, b, o, cap, h1, h2, h3, fun j hj => (h4 j hj).keep hb⟩
/-- What is known, when all was told. -/
noncomputable def mkF (L : List Tol) : DataW Unit := L.foldl (fun D t => tolF t D) (.map [])
noncomputable def mkC (L : List Tol) : DataW Unit := L.foldl (fun D t => tolC t D) (.map [])
theorem mkF_snoc (L : List Tol) (t : Tol) : mkF (L ++ [t]) = tolF t (mkF L) := by unfold mkF; rw [List.foldl_append]; rfl
theorem mkC_snoc (L : List Tol) (t : Tol) : mkC (L ++ [t]) = tolC t (mkC L) := by unfold mkC; rw [List.foldl_append]; rfl
theorem take_getD {L : List Tol} {i : Nat} (h : i < L.length) : L.take (i + 1) = L.take i ++ [L.getD i default] := by
  rw [List.take_add_one, List.getElem?_eq_getElem h, List.getD_eq_getElem?_getD, List.getElem?_eq_getElem h]; rfl
set_option maxHeartbeats 2000000 in
set_option maxRecDepth 100000 in
theorem made_any (w : World) (v : Value) (L : List Tol) (h : SlTol w v L) (hok : ∀ j, j < L.length → (L.getD j default).Ok) :
    Calls Tryz.prog 6 #[v] w fun e w' => ∃ B bf bc, e = .returned (.pointer (some ⟨B, 0, none⟩)) ∧ FacM w' B bf bc L.length (mkF L) (mkC L) ∧ w.heap.size ≤ B ∧ w.heap.size ≤ bf ∧ w.heap.size ≤ bc ∧ Below w.heap.size w w' := by
  have HNw := Lib.hid (fnew_any w)
  rcases h with ⟨rfl, a, cap, rfl⟩ | ⟨h0, b, o, cap, rfl, hc1, hc2, hT⟩
  · go_enter Tryz.func6, Tryz.ntmps6
    go_wp2_with fail
    refine (HNw.out).mono ?_
    rintro e w1 ⟨B, bf, bc, rfl, hm, hB, hbf, hbc, hb1⟩
    have HM := Lib.hid hm
    have HS := Lib.hid (And.intro hB (And.intro hbf (And.intro hbc hb1)))
    clear hm hB hbf hbc hb1 HNw
    go_wp2_with fail
    refine wp_loop_rounds 1 ?_
    rw [rounds_succ]
    go_wp2_with fail
    go_ret
    exact ⟨B, bf, bc, rfl, HM.out, HS.out⟩
  · have HT := Lib.hid hT
    have HOk := Lib.hid hok
    clear hT hok
    go_enter Tryz.func6, Tryz.ntmps6
    go_wp2_with fail
    refine (HNw.out).mono ?_
    rintro e w1 ⟨B, bf, bc, rfl, hm, hB, hbf, hbc, hb1⟩
    have HM := Lib.hid hm
    have HS := Lib.hid (And.intro hB (And.intro hbf hbc))
    have HB1 := Lib.hid hb1
    clear hm hB hbf hbc hb1 HNw
    go_wp2_with fail
    go_loopw [4] (fun vi wx => ∃ i : Nat, i ≤ L.length ∧ vi = .int .i64 (i : Nat) ∧ FacM wx B bf bc i (mkF (L.take i)) (mkC (L.take i)) ∧ Below w.heap.size w wx) (fun vi _ => L.length - (RowKit.intOf vi).toNat)
    case atStart => exact ⟨0, Nat.zero_le _, rfl, HM.out, HB1.out⟩
    case round =>
      obtain ⟨i, hi, rfl, hm, hb⟩ := hrel
      have HMr := Lib.hid hm
      have HBr := Lib.hid hb
      clear hm hb HM HB1
      by_cases hlt : i < L.length
      · have p0 : (0 : Int) ≤ (i : Int) := by omega
        have p1 : (i : Int) < (L.length : Int) := by omega
        have HTl := Lib.hid (tell_any wr HMr.out (by unfold maxLen; omega) (L.getD i default) (HOk.out i hlt))
        obtain ⟨k0, k1, k2, k3, k4, k5⟩ := (HT.out i hlt).keep HBr.out
        have HLt := Lib.hid hlt
        have HSn := Lib.hid (take_getD hlt)
        unfold tolV at HTl
        generalize L.getD i default = t at *
        obtain ⟨tc, tk, td, tx, ty, tp⟩ := t
        dsimp only at k0 k1 k2 k3 k4 k5 HTl
        clear hlt
        go_wp2_with fail
        refine (HTl.out).mono ?_
        rintro e w2 ⟨rfl, row, hm, hg, hrow⟩
        have HM2 := Lib.hid hm
        have HB2 := Lib.hid (HBr.out.grown hg HBr.out.size (fun j hj => by rcases hrow with h | h <;> (rw [h] at hj; cases hj); exact HS.out.2.1; exact HS.out.2.2))
        clear hm hg hrow HTl HMr HBr k0 k1 k2 k3 k4 k5
        go_wp2_with fail
        go_roundw
        case rel => exact ⟨i + 1, HLt.out, by go_num, by rw [HSn.out, mkF_snoc, mkC_snoc]; exact HM2.out, HB2.out⟩
        case measure => have := HLt.out; simp [RowKit.intOf]; omega
      · have hie : i = L.length := by omega
        subst hie
        rw [List.take_length] at HMr
        have p1 : ¬ (L.length : Int) < (L.length : Int) := by omega
        go_wp2_with fail
        go_ret
        exact ⟨B, rfl, bf, bc, HMr.out, HS.out.1, HS.out.2.1, HS.out.2.2, HBr.out⟩

end Go.Proofs.YtgeneoamngfomaaGreatDoor

/-
  Package facts: facts as they lie in memory; New, Fix, Choose: what they answer.
-/
import Derived.Test.YtgenkigeglleiaaFcA
import Derived.StillTailTactics
import Derived.Carry
import Derived.BigQuiet
import Derived.Maps.AppendAt
namespace Go.Proofs.Ytgenkigeglleiaa
open Go.RowKit Go.Lib Go.Maps
set_option linter.unusedVariables false
set_option linter.unusedSimpArgs false

/-- How elements read. -/
noncomputable def ratPair : List Value → Option (DataW Unit × List MemPlace)
  | [.int .i64 n, .int .i64 d] => some (.agg [.lit (.int .i64 n), .lit (.int .i64 d)], [])
  | _ => none
noncomputable def ratElem (v : Value) : Option (DataW Unit × List MemPlace) := match v with
  | .agg cs => ratPair cs.toList
  | _ => none
def ratD (n d : Int) : DataW Unit := .agg [.lit (.int .i64 n), .lit (.int .i64 d)]
theorem ratElem_mk (n d : Int) : ratElem (.agg #[.int .i64 n, .int .i64 d]) = some (ratD n d, []) := rfl
theorem ratElem_inv {v : Value} {x : DataW Unit} {ps : List MemPlace} (h : ratElem v = some (x, ps)) : ∃ n d, v = .agg #[.int .i64 n, .int .i64 d] ∧ x = ratD n d := by
  unfold ratElem at h
  cases v <;> try (cases h; done)
  rename_i cs
  dsimp only at h
  unfold ratPair at h
  split at h
  · rename_i n d hl
    injection h with h
    injection h with h1 h2
    exact ⟨n, d, by congr 1; exact Array.toList_inj.1 hl, h1.symm⟩
  · cases h
noncomputable abbrev intElem : Value → Option (DataW Unit × List MemPlace) := plainElem Try.prog 3
def intD (n : Int) : DataW Unit := .lit (.int .i64 n)
theorem rat_zero (w : World) : (zeroValue 29).run Try.prog w = .ok (.agg #[.int .i64 0, .int .i64 0]) w := by kernel_rfl
theorem int_zero (w : World) : (zeroValue 3).run Try.prog w = .ok (.int .i64 0) w := by kernel_rfl

/-- Facts in memory. -/
structure FacM (w : World) (B bf bc n : Nat) (Df Dc : DataW Unit) : Prop where
  c0 : w.cell? ⟨B, 0, none⟩ = some (.map (some bf))
  c1 : w.cell? ⟨B, 1, none⟩ = some (.map (some bc))
  hf : w.ownsMap Try.prog 85 ratElem bf n Df
  hc : w.ownsMap Try.prog 85 intElem bc n Dc
  ne : bf ≠ bc
  nf : bf ≠ B
  nc : bc ≠ B
theorem FacM.blt {w : World} {B bf bc n : Nat} {Df Dc : DataW Unit} (h : FacM w B bf bc n Df Dc) : B < w.heap.size := ltF h.c0
theorem FacM.grown {w w' : World} {B bf bc n : Nat} {Df Dc : DataW Unit} (h : FacM w B bf bc n Df Dc) {row : Option Nat} (hg : w.grownBy w' row) (h0 : some B ≠ row) (h1 : some bf ≠ row) (h2 : some bc ≠ row) : FacM w' B bf bc n Df Dc :=
  ⟨(World.cell?_of_block (hg.block B h.blt h0)).trans h.c0, (World.cell?_of_block (hg.block B h.blt h0)).trans h.c1, h.hf.kept hg h1, h.hc.kept hg h2, h.ne, h.nf, h.nc⟩
theorem grown_below {w w' : World} (h : Below w.heap.size w w') : w.grownBy w' none := ⟨h.os, h.tape, h.output, h.size, fun k hk _ => h.block k hk⟩
theorem FacM.keep {w w' : World} {B bf bc n : Nat} {Df Dc : DataW Unit} (h : FacM w B bf bc n Df Dc) (hb : Below w.heap.size w w') : FacM w' B bf bc n Df Dc := h.grown (grown_below hb) (by simp) (by simp) (by simp)
theorem FacM.mono {w : World} {B bf bc n m : Nat} {Df Dc : DataW Unit} (h : FacM w B bf bc n Df Dc) (hn : n ≤ m) : FacM w B bf bc m Df Dc := ⟨h.c0, h.c1, h.hf.mono hn, h.hc.mono hn, h.ne, h.nf, h.nc⟩
/-- Behind a store into the fixings. -/
theorem FacM.fixed {w w' : World} {B bf bc n : Nat} {Df Df' Dc : DataW Unit} (h : FacM w B bf bc n Df Dc) (hg : w.grownBy w' (some bf)) (ho : w'.ownsMap Try.prog 85 ratElem bf (n + 1) Df') : FacM w' B bf bc (n + 1) Df' Dc :=
  ⟨(World.cell?_of_block (hg.block B h.blt (fun e => h.nf (by injection e with e; exact e.symm)))).trans h.c0, (World.cell?_of_block (hg.block B h.blt (fun e => h.nf (by injection e with e; exact e.symm)))).trans h.c1, ho, (h.hc.kept hg (fun e => h.ne (by injection e with e; exact e.symm))).mono (Nat.le_succ n), h.ne, h.nf, h.nc⟩
theorem FacM.chosen {w w' : World} {B bf bc n : Nat} {Df Dc Dc' : DataW Unit} (h : FacM w B bf bc n Df Dc) (hg : w.grownBy w' (some bc)) (ho : w'.ownsMap Try.prog 85 intElem bc (n + 1) Dc') : FacM w' B bf bc (n + 1) Df Dc' :=
  ⟨(World.cell?_of_block (hg.block B h.blt (fun e => h.nc (by injection e with e; exact e.symm)))).trans h.c0, (World.cell?_of_block (hg.block B h.blt (fun e => h.nc (by injection e with e; exact e.symm)))).trans h.c1, (h.hf.kept hg (fun e => h.ne (by injection e))).mono (Nat.le_succ n), ho, h.ne, h.nf, h.nc⟩

set_option maxHeartbeats 1000000 in
set_option maxRecDepth 100000 in
theorem fnew_any (w : World) : Calls Try.prog 9 #[] w fun e w' => ∃ B bf bc, e = .returned (.pointer (some ⟨B, 0, none⟩)) ∧ FacM w' B bf bc 0 (.map []) (.map []) ∧ w.heap.size ≤ B ∧ w.heap.size ≤ bf ∧ w.heap.size ≤ bc ∧ Below w.heap.size w w' := by
  have hmm := @run_makeMap Try.prog
  go_enter Try.func9, Try.ntmps9
  go_wp2_with fail
  go_ret
  refine ⟨w.heap.size + 1 + 1, w.heap.size, w.heap.size + 1, rfl, ⟨?_, ?_, ?_, ?_, ?_, ?_, ?_⟩, ?_, ?_, ?_, ?_⟩
  · rw [World.cell?_alloc_at _ _ _ _ (by simp)]; rfl
  · rw [World.cell?_alloc_at _ _ _ _ (by simp)]; rfl
  · exact ((World.ownsMap_made w _ _ _).alloc _).alloc _
  · have := World.ownsMap_made (w.alloc (.map #[] 0)) Try.prog 85 intElem
    rw [show (w.alloc (.map #[] 0)).heap.size = w.heap.size + 1 by simp] at this
    exact this.alloc _
  · omega
  · omega
  · omega
  · omega
  · omega
  · omega
  · exact onF (onF (newF _ _) (newF _ _)) (newF _ _)
/-- What is wrong with a place. -/
def plcE (k d : Int) : Int := if k < 0 ∨ 63 < k then 10 else if d < 0 ∨ 73048 < d then 18 else 0
set_option maxHeartbeats 1000000 in
set_option maxRecDepth 100000 in
theorem chkplc_any (k d : Int) (w : World) : Calls Try.prog 40 #[.int .i64 k, .int .i64 d] w fun e w' => e = .returned (.int .i64 (plcE k d)) ∧ w = w' := by
  unfold plcE
  by_cases a1 : k < 0
  · rw [if_pos (.inl a1)]
    go_enter Try.func40, Try.ntmps40
    go_wp2_with fail
    go_ret
    exact ⟨rfl, rfl⟩
  by_cases a2 : 63 < k
  · rw [if_pos (.inr a2)]
    go_enter Try.func40, Try.ntmps40
    go_wp2_with fail
    go_ret
    exact ⟨rfl, rfl⟩
  rw [if_neg (fun h => h.elim a1 a2)]
  by_cases b1 : d < 0
  · rw [if_pos (.inl b1)]
    go_enter Try.func40, Try.ntmps40
    go_wp2_with fail
    go_ret
    exact ⟨rfl, rfl⟩
  by_cases b2 : 73048 < d
  · rw [if_pos (.inr b2)]
    go_enter Try.func40, Try.ntmps40
    go_wp2_with fail
    go_ret
    exact ⟨rfl, rfl⟩
  rw [if_neg (fun h => h.elim b1 b2)]
  go_enter Try.func40, Try.ntmps40
  go_wp2_with fail
  go_ret
  exact ⟨rfl, rfl⟩

/-- What is wrong with a fixing. -/
def fixE (k d x y : Int) : Int := if plcE k d = 0 then chkE x y else plcE k d
set_option maxHeartbeats 2000000 in
set_option maxRecDepth 100000 in
theorem ffix_any (w : World) {B bf bc n : Nat} {Df Dc : DataW Unit} (h : FacM w B bf bc n Df Dc) (hn : n < maxLen) (k d x y : Int) (hk : I64 k) (hd : I64 d) (hx : I64 x) (hy : I64 y) :
    Calls Try.prog 26 #[.pointer (some ⟨B, 0, none⟩), .agg #[.int .i64 k, .int .i64 d, .int .i64 x, .int .i64 y]] w fun e w' => e = .returned (.int .i64 (fixE k d x y)) ∧ FacM w' B bf bc (n + 1) (if fixE k d x y = 0 then Df.put (plk k d) (ratD x y) else Df) Dc ∧ w.grownBy w' (some bf) := by
  have hb0 := newF w (.cells #[.int .i64 k, .int .i64 d, .int .i64 x, .int .i64 y] 41)
  have HM := Lib.hid (h.keep hb0)
  have HB := Lib.hid hb0
  have HN := Lib.hid hn
  have HKey := Lib.hid (plc_key hk hd)
  have HPl := Lib.hid (fun w' => chkplc_any k d w')
  have HCk := Lib.hid (fun w' => check_any x y w' hx.1 hx.2 hy.1 hy.2)
  clear h hb0 hn hk hd hx hy
  by_cases p0 : plcE k d = 0
  · rw [p0] at HPl
    by_cases c0 : chkE x y = 0
    · have e : fixE k d x y = 0 := by unfold fixE; rw [if_pos p0, c0]
      rw [e, if_pos rfl]
      rw [c0] at HCk
      clear e p0 c0
      go_enter Try.func26, Try.ntmps26
      go_wp2_with fail
      refine (HPl.out _).mono ?_
      rintro e w1 ⟨rfl, rfl⟩
      clear HPl
      go_wp2_with fail
      refine (HCk.out _).mono ?_
      rintro e w2 ⟨rfl, hb2⟩
      have HM2 := Lib.hid (HM.out.keep hb2)
      have HB2 := Lib.hid (onF HB.out hb2)
      have hbk := World.cell?_of_block (a := ⟨w.heap.size, 0, none⟩) (hb2.block w.heap.size (by simp))
      have hbk1 := World.cell?_of_block (a := ⟨w.heap.size, 1, none⟩) (hb2.block w.heap.size (by simp))
      have hbk2 := World.cell?_of_block (a := ⟨w.heap.size, 2, none⟩) (hb2.block w.heap.size (by simp))
      have hbk3 := World.cell?_of_block (a := ⟨w.heap.size, 3, none⟩) (hb2.block w.heap.size (by simp))
      rw [World.cell?_alloc_at _ _ _ _ rfl] at hbk hbk1 hbk2 hbk3
      have k0 : w2.cell? ⟨w.heap.size, 0, none⟩ = some (.int .i64 k) := hbk
      have k1 : w2.cell? ⟨w.heap.size, 1, none⟩ = some (.int .i64 d) := hbk1
      have k2 : w2.cell? ⟨w.heap.size, 2, none⟩ = some (.int .i64 x) := hbk2
      have k3 : w2.cell? ⟨w.heap.size, 3, none⟩ = some (.int .i64 y) := hbk3
      have m0 := HM2.out.c0
      clear hb2 hbk hbk1 hbk2 hbk3 HCk HM HB
      go_upto_region 9 with fail
      go_still_tail 11, (by kernel_rfl)
      change wpList _ _ _ _ _ w2.drew
      have HM3 := Lib.hid (HM2.out.keep (Below.drew (Below.refl _ _)))
      have HB3 := Lib.hid (Below.drew HB2.out)
      have hown := HM3.out.hf
      clear k0 k1 k2 k3 m0 HM2 HB2
      generalize w2.drew = w3 at *
      refine wpList_mapUpdate_own _ rfl _ _ _ 72 rfl 85 29 plc_law Try.underlying72 ratElem bf n Df rfl hown HN.out (plv k d) _ (plk k d) rfl rfl HKey.out _ [] (ratElem_mk x y) ?_
      intro w4 ho hg
      have HM4 := Lib.hid (HM3.out.fixed hg ho)
      have HG4 := Lib.hid (((grown_below HB3.out).but (some bf)).trans hg)
      clear ho hg hown
      go_wp2_with fail
      go_ret
      exact ⟨rfl, HM4.out, HG4.out⟩
    · have e : fixE k d x y = chkE x y := by unfold fixE; rw [if_pos p0]
      rw [e, if_neg c0]
      generalize chkE x y = ce at *
      have e1 : (ce == 0) = false := beq_false_of_ne c0
      clear e p0 c0
      go_enter Try.func26, Try.ntmps26
      go_wp2_with fail
      refine (HPl.out _).mono ?_
      rintro e w1 ⟨rfl, rfl⟩
      clear HPl
      go_wp2_with fail
      refine (HCk.out _).mono ?_
      rintro e w2 ⟨rfl, hb2⟩
      have HM2 := Lib.hid (HM.out.keep hb2)
      have HB2 := Lib.hid (onF HB.out hb2)
      clear hb2
      go_wp2_with fail
      go_ret
      exact ⟨rfl, HM2.out.mono (Nat.le_succ n), (grown_below HB2.out).but _⟩
  · have e : fixE k d x y = plcE k d := by unfold fixE; rw [if_neg p0]
    rw [e, if_neg p0]
    generalize plcE k d = pe at *
    have e1 : (pe == 0) = false := beq_false_of_ne p0
    clear e p0
    go_enter Try.func26, Try.ntmps26
    go_wp2_with fail
    refine (HPl.out _).mono ?_
    rintro e w1 ⟨rfl, rfl⟩
    clear HPl
    go_wp2_with fail
    go_ret
    exact ⟨rfl, HM.out.mono (Nat.le_succ n), (grown_below HB.out).but _⟩

/-- What is wrong with a choice. -/
def choE (k d p : Int) : Int := if p < 1 ∨ 2 < p then 10 else plcE k d
theorem int_mk {p : Int} (h : I64 p) : intElem (.int .i64 p) = some (intD p, []) := plainElem_int Try.underlying3 (wf64 h)
set_option maxHeartbeats 2000000 in
set_option maxRecDepth 100000 in
theorem fchoose_any (w : World) {B bf bc n : Nat} {Df Dc : DataW Unit} (h : FacM w B bf bc n Df Dc) (hn : n < maxLen) (k d p : Int) (hk : I64 k) (hd : I64 d) (hp : I64 p) :
    Calls Try.prog 27 #[.pointer (some ⟨B, 0, none⟩), .agg #[.int .i64 k, .int .i64 d, .int .i64 p]] w fun e w' => e = .returned (.int .i64 (choE k d p)) ∧ FacM w' B bf bc (n + 1) Df (if choE k d p = 0 then Dc.put (plk k d) (intD p) else Dc) ∧ w.grownBy w' (some bc) := by
  have hb0 := newF w (.cells #[.int .i64 k, .int .i64 d, .int .i64 p] 45)
  have HM := Lib.hid (h.keep hb0)
  have HB := Lib.hid hb0
  have HN := Lib.hid hn
  have HKey := Lib.hid (plc_key hk hd)
  have HPm := Lib.hid (int_mk hp)
  have HPl := Lib.hid (fun w' => chkplc_any k d w')
  clear h hb0 hn hk hd hp
  by_cases q1 : p < 1
  · have e : choE k d p = 10 := by unfold choE; rw [if_pos (.inl q1)]
    rw [e, if_neg (by decide)]
    clear e
    go_enter Try.func27, Try.ntmps27
    go_wp2_with fail
    go_ret
    exact ⟨rfl, HM.out.mono (Nat.le_succ n), (grown_below HB.out).but _⟩
  by_cases q2 : 2 < p
  · have e : choE k d p = 10 := by unfold choE; rw [if_pos (.inr q2)]
    rw [e, if_neg (by decide)]
    clear e
    go_enter Try.func27, Try.ntmps27
    go_wp2_with fail
    go_ret
    exact ⟨rfl, HM.out.mono (Nat.le_succ n), (grown_below HB.out).but _⟩
  have e : choE k d p = plcE k d := by unfold choE; rw [if_neg (fun h => h.elim q1 q2)]
  rw [e]
  clear e
  generalize plcE k d = pe at *
  by_cases p0 : pe = 0
  · subst p0
    rw [if_pos rfl]
    go_enter Try.func27, Try.ntmps27
    go_wp2_with fail
    refine (HPl.out _).mono ?_
    rintro e w1 ⟨rfl, rfl⟩
    clear HPl
    have k0 : (w.alloc (.cells #[.int .i64 k, .int .i64 d, .int .i64 p] 45)).cell? ⟨w.heap.size, 0, none⟩ = some (.int .i64 k) := by rw [World.cell?_alloc_at _ _ _ _ rfl]; rfl
    have k1 : (w.alloc (.cells #[.int .i64 k, .int .i64 d, .int .i64 p] 45)).cell? ⟨w.heap.size, 1, none⟩ = some (.int .i64 d) := by rw [World.cell?_alloc_at _ _ _ _ rfl]; rfl
    have k2 : (w.alloc (.cells #[.int .i64 k, .int .i64 d, .int .i64 p] 45)).cell? ⟨w.heap.size, 2, none⟩ = some (.int .i64 p) := by rw [World.cell?_alloc_at _ _ _ _ rfl]; rfl
    have m1 := HM.out.c1
    go_upto_region 8 with fail
    generalize w.alloc (.cells #[.int .i64 k, .int .i64 d, .int .i64 p] 45) = w2 at *
    have HM3 := Lib.hid (HM.out.keep (Below.drew (Below.refl _ _)))
    have HB3 := Lib.hid (Below.drew HB.out)
    go_still_tail 11, (by kernel_rfl)
    change wpList _ _ _ _ _ w2.drew
    have hown := HM3.out.hc
    clear m1 HM HB q1 q2 k0 k1 k2
    generalize w2.drew = w3 at *
    refine wpList_mapUpdate_own _ rfl _ _ _ 74 rfl 85 3 plc_law Try.underlying74 intElem bc n Dc rfl hown HN.out (plv k d) _ (plk k d) rfl rfl HKey.out _ [] HPm.out ?_
    intro w4 ho hg
    have HM4 := Lib.hid (HM3.out.chosen hg ho)
    have HG4 := Lib.hid (((grown_below HB3.out).but (some bc)).trans hg)
    clear ho hg hown
    go_wp2_with fail
    go_ret
    exact ⟨rfl, HM4.out, HG4.out⟩
  · rw [if_neg p0]
    have e1 : (pe == 0) = false := beq_false_of_ne p0
    clear p0
    go_enter Try.func27, Try.ntmps27
    go_wp2_with fail
    refine (HPl.out _).mono ?_
    rintro e w1 ⟨rfl, rfl⟩
    clear HPl
    go_wp2_with fail
    go_ret
    exact ⟨rfl, HM.out.mono (Nat.le_succ n), (grown_below HB.out).but _⟩

end Go.Proofs.Ytgenkigeglleiaa

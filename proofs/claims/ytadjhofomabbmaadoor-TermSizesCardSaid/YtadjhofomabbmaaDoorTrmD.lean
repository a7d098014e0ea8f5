/-
  Package term: below: an iterator over the places of the terms below a node: its contract.
-/
import Derived.Test.YtadjhofomabbmaaDoorTrmC
import Derived.RangeFuncBox
import Derived.RangeFuncNested
import Derived.RangeFuncBound
import Derived.RangeFuncCalls
import Derived.RangeFuncLeaves
import Derived.Shelf.Abstract
import Derived.OwnWalkIn
import Derived.TacticsInMore
import Derived.LoopNIn
import Derived.LoopIn
namespace Go.Proofs.YtadjhofomabbmaaDoor
open Go.RowKit Go.Lib Go.Shelf
set_option linter.unusedVariables false
attribute [local go_sem] Oper.semAt_some

theorem grownT {w w' : World} (h : Below w.heap.size w w') : w.grownBy w' none := ⟨h.os, h.tape, h.output, h.size, fun k hk _ => h.block k hk⟩
theorem abideT {β : Type} {B : Nat} {J : β → World → Prop} (h : AbidesFrom B J) {s : β} {w w' : World} (hs : J s w) (hb : Below w.heap.size w w') : J s w' := h s w w' none hs (grownT hb) (fun r e => by cases e)
theorem wide_in {n : Nat} {P : Program} {f : FuncId} {args : Array Value} {w : World} {R R' : Ending → World → Prop} (h : Calls P f args w R) (hm : ∀ e w', R e w' → R' e w') : Fence.wide.fn f ∧ (Fence.wide.depth.isSome = true → 1 ≤ n) ∧ CallsIn Fence.wide (n - 1) P f args w R' :=
  ⟨trivial, fun h => (by cases h), (callsIn_wide.2 h).mono hm⟩
theorem wide_in2 {m : Nat} {P : Program} {f : FuncId} {args : Array Value} {w : World} {R R' : Ending → World → Prop} (h : Calls P f args w R) (hm : ∀ e w', R e w' → R' e w') : Fence.wide.fn f ∧ CallsIn Fence.wide m P f args w R' :=
  ⟨trivial, (callsIn_wide.2 h).mono hm⟩
theorem keepN {w w' : World} {n₀ b i : Nat} {v : Value} (hb : Below n₀ w w') (h0 : b < n₀) (h : w.cell? ⟨b, i, none⟩ = some v) : w'.cell? ⟨b, i, none⟩ = some v := (hb.cell (p := ⟨b, i, none⟩) h0).trans h
theorem NdC.keepN {w w' : World} {n₀ b p : Nat} {n : Nd} (h : NdC w b p n) (hb : Below n₀ w w') (h0 : b < n₀) : NdC w' b p n :=
  ⟨YtadjhofomabbmaaDoor.keepN hb h0 h.c0, YtadjhofomabbmaaDoor.keepN hb h0 h.c1, YtadjhofomabbmaaDoor.keepN hb h0 h.c2, YtadjhofomabbmaaDoor.keepN hb h0 h.c3, YtadjhofomabbmaaDoor.keepN hb h0 h.c4⟩
theorem NdA.keepN {w w' : World} {n₀ b o : Nat} {t : List Nd} (h : NdA w b o t) (hb : Below n₀ w w') (h0 : b < n₀) : NdA w' b o t := fun j hj => (h j hj).keepN hb h0
theorem KndW.keepN {w w' : World} {n₀ : Nat} (h : KndW w) (hb : Below n₀ w w') (h0 : 1 < n₀) : KndW w' :=
  ⟨fun k hk => YtadjhofomabbmaaDoor.keepN hb h0 (h.c0 k hk), fun k hk => YtadjhofomabbmaaDoor.keepN hb h0 (h.c1 k hk), fun k hk => YtadjhofomabbmaaDoor.keepN hb h0 (h.c2 k hk), fun k hk => YtadjhofomabbmaaDoor.keepN hb h0 (h.c3 k hk), fun k hk => YtadjhofomabbmaaDoor.keepN hb h0 (h.c4 k hk), fun k hk => YtadjhofomabbmaaDoor.keepN hb h0 (h.c5 k hk), fun k hk => YtadjhofomabbmaaDoor.keepN hb h0 (h.c6 k hk), fun k hk => YtadjhofomabbmaaDoor.keepN hb h0 (h.c7 k hk)⟩
/-- What a round that goes on keeps: what lies below, and one box. -/
def KpT (n₀ Bs : Nat) (W W' : World) : Prop := Below n₀ W W' ∧ ∀ v, W.cell? ⟨Bs, 0, none⟩ = some v → W'.cell? ⟨Bs, 0, none⟩ = some v
theorem KpT.trans {n₀ Bs : Nat} {A B C : World} (h : KpT n₀ Bs A B) (k : KpT n₀ Bs B C) : KpT n₀ Bs A C := ⟨h.1.trans k.1, fun v hv => k.2 v (h.2 v hv)⟩
theorem KpT.refl (n₀ Bs : Nat) (A : World) : KpT n₀ Bs A A := ⟨Below.refl _ _, fun _ h => h⟩
theorem KpT.of {n₀ Bs : Nat} {A B : World} (hn : n₀ ≤ A.heap.size) (h : Below A.heap.size A B) : KpT n₀ Bs A B := ⟨h.mono hn, fun v hv => keepT h hv⟩
theorem KpT.put {n₀ Bs s : Nat} (hn : n₀ ≤ s) (W : World) (l : Nat) (o o' : Obj) (h : s ≤ l) (hl : W.heap[l]? = some o) (hc : o.isCells = false) : KpT n₀ Bs W (W.putObj l o') :=
  ⟨(Below.refl n₀ W).grown (grownBy_putObj' W l o') (by
      have := (Array.getElem?_eq_some_iff.1 hl).1
      omega) (fun k e => by cases e; omega), fun v hv => cell_kept hv (grownBy_putObj' W l o') (fun r e => by cases e; exact ⟨o, hl, hc⟩)⟩
/-- What has come when k rounds are over. -/
def uptoT {α : Type} (f : Nat → α) (k : Nat) : List α := (List.range k).map f
theorem uptoT_succ {α : Type} (f : Nat → α) (k : Nat) : uptoT f (k + 1) = uptoT f k ++ [f k] := by simp [uptoT, List.range_succ]
theorem uptoT_length {α : Type} (f : Nat → α) (k : Nat) : (uptoT f k).length = k := by simp [uptoT]
/-- The first of the terms below, as a row of their numbers. -/
def upF (c : Nat) : (k : Nat) → k ≤ c → List (Fin c)
  | 0, _ => []
  | k + 1, h => upF c k (Nat.le_of_succ_le h) ++ [⟨k, h⟩]
theorem upF_length (c : Nat) : ∀ k h, (upF c k h).length = k
  | 0, _ => rfl
  | k + 1, h => by rw [upF, List.length_append, upF_length c k]; rfl
theorem upF_map {β : Type} (c : Nat) (g : Nat → β) : ∀ k h, (upF c k h).map (fun x => g x.1) = uptoT g k
  | 0, _ => rfl
  | k + 1, h => by rw [upF, List.map_append, upF_map c g k, uptoT_succ]; rfl
/-- What yield is called with. -/
def encT (t : List Nd) (p c : Nat) (x : Fin c) : Array Value := #[.int .i64 (x.1 : Int), .int .i64 ((plA t (p + 1) x.1 : Nat) : Int)]

theorem below_make (a : Option Addr) (len cap : Nat) (p : Int) (w : World) : Calls Tryd.prog 42 #[.slice a len cap, .int .i64 p] w fun e w' => e = .returned (.func (.func 55) #[] #[.pointer (some ⟨w.heap.size + 1, 0, none⟩), .pointer (some ⟨w.heap.size, 0, none⟩)]) ∧ w' = (w.alloc (.cells #[.slice a len cap] 37)).alloc (.cells #[.int .i64 p] 3) := by
  go_enter Tryd.func42, Tryd.ntmps42
  go_wp2_with fail
  go_ret
  exact ⟨rfl, rfl⟩

set_option maxRecDepth 100000 in
set_option maxHeartbeats 4000000 in
theorem below_in (F : Fence) (n : Nat) (hF : F = Fence.wide) (l Bp Bs n₀ : Nat) (t : List Nd) (hL : t.length ≤ 1000) (b o cap p : Nat) (hcap : t.length ≤ cap) (hcm : cap ≤ 9223372036854775807) (hb : b < n₀) (hT : TmA t p) (c : Nat) (hc : c = cnO (opA t p)) (J Jx : List (Fin c) → World → Prop)
    (hY : ∀ pre x W, J pre W → pre.length < c → YieldAt F (n - 1) Tryd.prog l (encT t p c x) W fun e W' =>
      (e = .returned (.bool true) ∧ J (pre ++ [x]) W' ∧ KpT n₀ Bs W W') ∨ (e = .returned (.bool false) ∧ Jx (pre ++ [x]) W'))
    (hAb : ∀ pre W W', J pre W → Below W.heap.size W W' → J pre W')
    (W : World) (hBp : W.cell? ⟨Bp, 0, none⟩ = some (.int .i64 (p : Int))) (hBs : W.cell? ⟨Bs, 0, none⟩ = some (.slice (some ⟨b, o, none⟩) t.length cap)) (hn : n₀ ≤ W.heap.size) (hN : NdA W b o t) (C : KndW W) (hk0 : 1 < n₀) (h0 : J [] W) :
    CallsIn F n Tryd.prog 55 #[.func (.yield l) #[] #[], .pointer (some ⟨Bp, 0, none⟩), .pointer (some ⟨Bs, 0, none⟩)] W fun e W' => (∃ v, e = .returned v) ∧
      ((∃ ys, ys = upF c c (Nat.le_refl _) ∧ J ys W') ∨ (∃ pre, (∃ k h, pre = upF c k h) ∧ Jx pre W')) := by
  subst hF
  have hp := hT.lt
  obtain ⟨nd, hnd⟩ : ∃ nd, nd = t.getD p default := ⟨_, rfl⟩
  have hnc := hN p hp
  rw [← hnd] at hnc
  have HOp : Hid (opA t p = nd.op) := Lib.hid (by rw [hnd]; rfl)
  obtain ⟨e0, e1, e2, e3, e4⟩ := hnc
  have i0 : (0 : Int) ≤ (p : Int) := by omega
  have i1 : (p : Int) < (t.length : Int) := by omega
  have i2 : (p : Int) ≤ 1000 := by omega
  have HK := Lib.hid (kindof_any nd.op W C)
  have HCt := Lib.hid (fun w => count_any (ixO nd.op) (ixO_lt nd.op) w)
  have HCn : Hid (cnO nd.op = cnN (ixO nd.op)) := Lib.hid rfl
  have HN := Lib.hid hN
  have HC := Lib.hid C
  have HT := Lib.hid hT
  have HAb := Lib.hid hAb
  rw [HOp.out, HCn.out] at hc
  have hcn := cn_le nd.op
  rw [HCn.out] at hcn
  have HKid : Hid (∀ i, i < cnN (ixO nd.op) → TmA t (plA t (p + 1) i) ∧ p < plA t (p + 1) i ∧ plA t (p + 1) i + szA t (plA t (p + 1) i) ≤ p + szA t p) := Lib.hid (fun i hi => HT.out.kid (by rw [HOp.out, HCn.out]; exact hi))
  have hbd := hT.bd
  have HY := Lib.hid hY
  generalize ixO nd.op = kk at *
  clear hnd hN C hT hAb hY
  rw [← hc] at hcn HKid
  rw [← hc] at HCt
  clear hc HCn
  have c0 : (0 : Int) ≤ (c : Int) := by omega
  have c4 : (c : Int) ≤ 4 := by omega
  refine callsIn_of_wp Tryd.func55 rfl trivial ?_ rfl
  simp only [Tryd.ntmps55, List.size_toArray, List.length_cons, List.length_nil, Nat.reduceAdd, Nat.reduceSub, Array.replicate_succ, Array.replicate_zero, List.push_toArray, List.append_toArray, List.nil_append, List.cons_append]
  gi_wp2
  refine wide_in HK.out ?_
  rintro e w1 ⟨rfl, hb1⟩
  have HB1 := Lib.hid hb1
  clear hb1
  gi_wp2
  refine wide_in (HCt.out _) ?_
  rintro e w2 ⟨rfl, hb2⟩
  have HB2 := Lib.hid (onB HB1.out hb2)
  have HJ := Lib.hid (HAb.out _ _ _ h0 HB2.out)
  clear hb2 h0
  gi_wp2
  gi_loopw [4, 17] (fun vp vi wx => ∃ (k : Nat) (hk : k ≤ c), vi = .int .i64 k ∧ vp = .int .i64 (plA t (p + 1) k) ∧ J (upF c k hk) wx ∧ KpT n₀ Bs W wx) (fun _ vi _ => 4 - (RowKit.intOf vi).toNat)
  case atStart => exact ⟨0, Nat.zero_le _, rfl, rfl, HJ.out, KpT.of hn HB2.out⟩
  case round =>
    obtain ⟨k, hk, rfl, rfl, hJs, hbx⟩ := hrel
    have HBx := Lib.hid hbx
    have HJs := Lib.hid hJs
    by_cases hlt : k < c
    · obtain ⟨fn, tmps, assign, body, hy, hR⟩ := HY.out _ ⟨k, hlt⟩ wr hJs (by rw [upF_length]; exact hlt)
      dsimp only [encT] at hy
      have k0 : (0 : Int) ≤ (k : Int) := by omega
      have k1 : (k : Int) < (c : Int) := by omega
      clear hJs hbx
      gi_wp2
      refine ⟨fun h => (by cases h), hR.mono ?_⟩
      rintro e W3 (⟨rfl, hJ3, hk3⟩ | ⟨rfl, hJx3⟩)
      · have HJ3 := Lib.hid hJ3
        have HB3 := Lib.hid (HBx.out.trans hk3)
        have HK3 := Lib.hid hk3
        have s3 := HB3.out.2 _ hBs
        obtain ⟨tk, hin, hend⟩ := HKid.out k hlt
        have hpl := tk.lt
        have hS := size_in t (by omega) b o cap hcap hcm (plA t (p + 1) k) hpl W3 (HN.out.keepN HB3.out.1 hb) (HC.out.keepN HB3.out.1 hk0)
        rw [szE_ok tk] at hS
        have HS := Lib.hid hS
        have HPl : Hid (plA t (p + 1) (k + 1) = plA t (p + 1) k + szA t (plA t (p + 1) k)) := Lib.hid rfl
        have hle : plA t (p + 1) k + szA t (plA t (p + 1) k) ≤ 1000 := by omega
        generalize szA t (plA t (p + 1) k) = sz at *
        obtain ⟨pl, hpl'⟩ : ∃ pl, pl = plA t (p + 1) k := ⟨_, rfl⟩
        rw [← hpl'] at hin hend hpl HS HPl hle ⊢
        have j0 : (0 : Int) ≤ (pl : Int) := by omega
        have j1 : (0 : Int) ≤ (sz : Int) := by omega
        have j2 : (pl : Int) + (sz : Int) ≤ 1000 := by omega
        clear hS hJ3 hk3 hR hpl'
        gi_wp2
        refine wide_in HS.out ?_
        rintro e W4 ⟨rfl, hb4⟩
        have HB4 := Lib.hid hb4
        clear hb4
        gi_wp2
        go_roundw
        case rel => exact ⟨k + 1, by omega, by go_num, by rw [HPl.out]; go_num, HAb.out _ _ _ HJ3.out HB4.out, HB3.out.trans (KpT.of (Nat.le_trans hn HB3.out.1.size) HB4.out)⟩
        case measure => simp [RowKit.intOf]; omega
      · clear hR
        have HX := Lib.hid hJx3
        clear hJx3
        gi_wp2
        refine bodyPost_ret (results_none rfl _ _ _) rfl ?_
        exact ⟨⟨_, rfl⟩, .inr ⟨_, ⟨k + 1, hlt, rfl⟩, HX.out⟩⟩
    · obtain rfl : k = c := by omega
      clear hJs hbx
      gi_wp2
      go_end0
      exact ⟨⟨_, rfl⟩, .inl ⟨_, rfl, HJs.out⟩⟩

/-- What stands in the table's and the slice's blocks lies below; the iterator has its contract. -/
theorem below_stops (n : Nat) (Bp Bs n₀ : Nat) (t : List Nd) (hL : t.length ≤ 1000) (b o cap p : Nat) (hcap : t.length ≤ cap) (hcm : cap ≤ 9223372036854775807) (hb : b < n₀) (hT : TmA t p) (c : Nat) (hc : c = cnO (opA t p)) (w : World)
    (hBp : w.cell? ⟨Bp, 0, none⟩ = some (.int .i64 (p : Int))) (hBs : w.cell? ⟨Bs, 0, none⟩ = some (.slice (some ⟨b, o, none⟩) t.length cap)) (hn : n₀ ≤ w.heap.size) (hN : NdA w b o t) (C : KndW w) (hk0 : 1 < n₀) :
    SeqStopsK Fence.wide n Tryd.prog 55 #[.pointer (some ⟨Bp, 0, none⟩), .pointer (some ⟨Bs, 0, none⟩)] (encT t p c) (KpT n₀ Bs) (fun ys => ys = upF c c (Nat.le_refl _)) (fun pre => ∃ k h, pre = upF c k h) c w := fun l J Jx W hW hJ' hJx hY h0 => by
  have hB := hW.mono hn
  exact below_in _ n rfl l Bp Bs n₀ t hL b o cap p hcap hcm hb hT c hc J Jx hY (fun pre A B hs hb => abideT hJ' hs hb) W (keepT hW hBp) (keepT hW hBs) (Nat.le_trans hn hW.size) (hN.keepN hB hb) (C.keepN hB hk0) hk0 h0

end Go.Proofs.YtadjhofomabbmaaDoor

/-
  Package facts: Copy: what it answers.
-/
import Derived.Test.YtedjbmmegjgegaaFa
import Derived.Test.YtedjbmmegjgegaaShelf
import Derived.Shelf.SlMaps.Clone
import Derived.Deep.RegionHeld3
import Derived.Test.YtedjbmmegjgegaaFd
import Derived.Test.YtedjbmmegjgegaaFu
namespace Go.Proofs.Ytedjbmmegjgegaa
open Go.RowKit Go.Lib Go.Maps Go.Shelf
set_option linter.unusedVariables false
set_option linter.unusedSimpArgs false

theorem clone_r (w : World) {b n : Nat} {D : DataW Unit} (ho : w.ownsMap Try.prog 85 ratElem b n D) :
    Calls Try.prog 34 #[.map (some b)] w fun e w' => ∃ x, e = .returned (.map (some x)) ∧ w.heap.size ≤ x ∧ w'.ownsMap Try.prog 85 ratElem x n D ∧ Below w.heap.size w w' := by
  have h := AnyW.maps_Clone_owns (P := Try.prog) (ρ := Try.cloneR_ren) Try.cloneR 85 ratElem b n D w ho
  exact Calls.mono h fun e w' ⟨h1, h2, _, h3⟩ => ⟨_, h1, Nat.le_refl _, h2, h3⟩
theorem clone_i (w : World) {b n : Nat} {D : DataW Unit} (ho : w.ownsMap Try.prog 85 intElem b n D) :
    Calls Try.prog 35 #[.map (some b)] w fun e w' => ∃ x, e = .returned (.map (some x)) ∧ w.heap.size ≤ x ∧ w'.ownsMap Try.prog 85 intElem x n D ∧ Below w.heap.size w w' := by
  have h := AnyW.maps_Clone_owns (P := Try.prog) (ρ := Try.cloneI_ren) Try.cloneI 85 intElem b n D w ho
  exact Calls.mono h fun e w' ⟨h1, h2, _, h3⟩ => ⟨_, h1, Nat.le_refl _, h2, h3⟩
/-- Two new maps in one block of their own. -/
theorem FacM.new {w0 w : World} {x y n : Nat} {Df Dc : DataW Unit} (hx : w.ownsMap Try.prog 85 ratElem x n Df) (hy : w.ownsMap Try.prog 85 intElem y n Dc) (hne : x ≠ y) : FacM (w.alloc (.cells #[.map (some x), .map (some y)] 76)) w.heap.size x y n Df Dc :=
  ⟨by rw [World.cell?_alloc_at _ _ _ _ rfl]; rfl, by rw [World.cell?_alloc_at _ _ _ _ rfl]; rfl, hx.alloc _, hy.alloc _, hne, Nat.ne_of_lt hx.lt, Nat.ne_of_lt hy.lt⟩
set_option maxHeartbeats 2000000 in
set_option maxRecDepth 100000 in
theorem fcopy_any (w : World) {B bf bc n : Nat} {Df Dc : DataW Unit} (h : FacM w B bf bc n Df Dc) :
    Calls Try.prog 23 #[.pointer (some ⟨B, 0, none⟩)] w fun e w' => ∃ B' bf' bc', e = .returned (.pointer (some ⟨B', 0, none⟩)) ∧ FacM w' B' bf' bc' n Df Dc ∧ w.heap.size ≤ B' ∧ w.heap.size ≤ bf' ∧ w.heap.size ≤ bc' ∧ Below w.heap.size w w' := by
  have HR := Lib.hid (fun (w' : World) (hb : Below w.heap.size w w') => clone_r w' (h.hf.kept (grown_below hb) (by simp)))
  have HI := Lib.hid (fun (w' : World) (hb : Below w.heap.size w w') => clone_i w' (h.hc.kept (grown_below hb) (by simp)))
  have HB0 : Hid (Below w.heap.size w w.drew) := Lib.hid (Below.drew (Below.refl _ _))
  have HC := Lib.hid (And.intro h.c0 h.c1)
  have c0 := h.c0
  have c1 := h.c1
  have kd0 : w.drew.cell? ⟨B, 0, none⟩ = some (.map (some bf)) := h.c0
  have kd1 : w.drew.cell? ⟨B, 1, none⟩ = some (.map (some bc)) := h.c1
  clear h
  go_enter Try.func23, Try.ntmps23
  go_upto_region 3 with fail
  go_region_held3 (fun w' => w'.cell? ⟨B, 0, none⟩ = some (.map (some bf)) ∧ w'.cell? ⟨B, 1, none⟩ = some (.map (some bc)))
    (first | (with_reducible exact ⟨kd0, kd1⟩) | (with_reducible exact ⟨keepF (newF _ _) kd0, keepF (newF _ _) kd1⟩))
    (first
      | (go_at_call 34
         (first
           | (with_reducible refine (HR.out _ HB0.out).mono ?_; rintro e w1 ⟨x, rfl, hx, ox, hb⟩; have HX1 := Lib.hid (And.intro hx (And.intro ox (onF HB0.out hb))); have HZ := Lib.hid (onF HB0.out hb))
           | (with_reducible refine (HR.out _ HY1.out.2.2).mono ?_; rintro e w1 ⟨x, rfl, hx, ox, hb⟩; have HE := Lib.hid (Nat.ne_of_lt (Nat.lt_of_lt_of_le HY1.out.2.1.lt hx)).symm; have HPx := Lib.hid ox; have HPy := Lib.hid (HY1.out.2.1.kept (grown_below hb) (by simp)); have HL := Lib.hid (And.intro (Nat.le_trans HY1.out.2.2.size hx) HY1.out.1); have HZ := Lib.hid (onF HY1.out.2.2 hb)))
         clear hx ox hb kd0 kd1
         have kd0 := keepF HZ.out HC.out.1
         have kd1 := keepF HZ.out HC.out.2)
      | (go_at_call 35
         (first
           | (with_reducible refine (HI.out _ HB0.out).mono ?_; rintro e w1 ⟨y, rfl, hy, oy, hb⟩; have HY1 := Lib.hid (And.intro hy (And.intro oy (onF HB0.out hb))); have HZ := Lib.hid (onF HB0.out hb))
           | (with_reducible refine (HI.out _ HX1.out.2.2).mono ?_; rintro e w1 ⟨y, rfl, hy, oy, hb⟩; have HE := Lib.hid (Nat.ne_of_lt (Nat.lt_of_lt_of_le HX1.out.2.1.lt hy)); have HPy := Lib.hid oy; have HPx := Lib.hid (HX1.out.2.1.kept (grown_below hb) (by simp)); have HL := Lib.hid (And.intro HX1.out.1 (Nat.le_trans HX1.out.2.2.size hy)); have HZ := Lib.hid (onF HX1.out.2.2 hb)))
         clear hy oy hb kd0 kd1
         have kd0 := keepF HZ.out HC.out.1
         have kd1 := keepF HZ.out HC.out.2))
  all_goals go_wp2
  all_goals go_ret
  all_goals exact ⟨_, _, _, rfl, FacM.new (w0 := w) HPx.out HPy.out HE.out, HZ.out.size, HL.out.1, HL.out.2, onF HZ.out (newF _ _)⟩

end Go.Proofs.Ytedjbmmegjgegaa

namespace Go.Proofs.Ytedjbmmegjgegaa
open Go.RowKit Go.Lib Go.Maps Go.Sort Go.Shelf
set_option linter.unusedVariables false
set_option linter.unusedSimpArgs false

/-- A fact of the list is known as it stands there. -/
theorem gt_in {l : List Fct} (hs : Srt l) {t : Fct} (ht : t ∈ l) : gtL l t.k t.d = (t.x, t.y, true) := by
  rcases gtL_cases l t.k t.d with ⟨u, hu, e1, e2, e⟩ | ⟨h0, _⟩
  · have := srt_one hs hu ht e1 e2
    subst this; exact e
  · have := List.find?_eq_none.1 h0 t ht
    exact absurd (isG_iffE.2 ⟨rfl, rfl⟩) this
/-- A row that is a map's. -/
def IsMp (w : World) (row : Option Nat) : Prop := ∀ r, row = some r → ∃ es c, w.heap[r]? = some (.map es c)
theorem mp_ne {w : World} {row : Option Nat} (h : IsMp w row) {b i : Nat} {v : Value} (hc : w.cell? ⟨b, i, none⟩ = some v) : some b ≠ row := fun e => by
  obtain ⟨es, c, hm⟩ := h b e.symm
  simp [World.cell?, hm] at hc
theorem cell_mpk {w w' : World} {row : Option Nat} (h : IsMp w row) (hg : w.grownBy w' row) {b i : Nat} {v : Value} (hc : w.cell? ⟨b, i, none⟩ = some v) : w'.cell? ⟨b, i, none⟩ = some v := (World.cell?_of_block (hg.block b (ltF hc) (mp_ne h hc))).trans hc
theorem frz_mpk {w w' : World} {row : Option Nat} (h : IsMp w row) (hg : w.grownBy w' row) {b i : Nat} {v : Value} (hc : w.cell? ⟨b, i, none⟩ = some v) (hf : w.frozen? ⟨b, i, none⟩ = false) : w'.frozen? ⟨b, i, none⟩ = false := (World.frozen?_of_block (a := ⟨b, i, none⟩) (hg.block b (ltF hc) (mp_ne h hc))).trans hf
theorem own_mp {w : World} {k : TypeId} {R : Value → Option (DataW Unit × List MemPlace)} {b n : Nat} {D : DataW Unit} (h : w.ownsMap Try.prog k R b n D) : ∃ es c, w.heap[b]? = some (.map es c) := by
  obtain ⟨es, c, hb, _⟩ := h
  exact ⟨es, c, hb⟩
theorem FacM.isMp {w : World} {B bf bc n : Nat} {Df Dc : DataW Unit} (h : FacM w B bf bc n Df Dc) {row : Option Nat} (hr : row = some bf ∨ row = some bc) : IsMp w row := fun r e => by
  rcases hr with h1 | h1
  · rw [h1] at e; injection e with e; subst e; exact own_mp h.hf
  · rw [h1] at e; injection e with e; subst e; exact own_mp h.hc
theorem FacM.mpk {w w' : World} {B bf bc n : Nat} {Df Dc : DataW Unit} (h : FacM w B bf bc n Df Dc) {row : Option Nat} (hm : IsMp w row) (hg : w.grownBy w' row) (h1 : some bf ≠ row) (h2 : some bc ≠ row) : FacM w' B bf bc n Df Dc := h.grown hg (mp_ne hm h.c0) h1 h2
theorem RowV.mpk {E : Fct → List Value} {k : Nat} {w w' : World} {v : Value} {m : List Fct} (h : RowV E k w v m) {row : Option Nat} (hm : IsMp w row) (hg : w.grownBy w' row) : RowV E k w' v m := by
  rcases h with h | ⟨h0, g, cap, h1, h2, h3, h4⟩
  · exact .inl h
  · exact .inr ⟨h0, g, cap, h1, h2, h3, fun j hj i c hi hc => cell_mpk hm hg (h4 j hj i c hi hc)⟩
theorem TolC.mpk {w w' : World} {b o : Nat} {t : Tol} (h : TolC w b o t) {row : Option Nat} (hm : IsMp w row) (hg : w.grownBy w' row) : TolC w' b o t := by
  obtain ⟨k0, k1, k2, k3, k4, k5⟩ := h
  exact ⟨cell_mpk hm hg k0, cell_mpk hm hg k1, cell_mpk hm hg k2, cell_mpk hm hg k3, cell_mpk hm hg k4, cell_mpk hm hg k5⟩
/-- Which of the maps are others. -/
structure DisS (z f1 c1 f2 c2 f3 c3 : Nat) : Prop where
  z1 : z ≤ f1 ∧ z ≤ c1
  z2 : z ≤ f2 ∧ z ≤ c2
  a : f1 ≠ f2 ∧ f1 ≠ c2 ∧ c1 ≠ f2 ∧ c1 ≠ c2
  b : f1 ≠ f3 ∧ f1 ≠ c3 ∧ c1 ≠ f3 ∧ c1 ≠ c3
  c : f2 ≠ f3 ∧ f2 ≠ c3 ∧ c2 ≠ f3 ∧ c2 ≠ c3
/-- Two facts told alike, a copy of what they were, a list of it. -/
structure CopS (w wx : World) (R H B1 f1 c1 B2 f2 c2 B3 f3 c3 Bs Bg : Nat) (va : Value) (L M : List Tol) (i j : Nat) : Prop where
  m1 : FacM wx B1 f1 c1 (L.length + i) (mkF (L ++ M.take i)) (mkC (L ++ M.take i))
  m2 : FacM wx B2 f2 c2 (L.length + j) (mkF (L ++ M.take j)) (mkC (L ++ M.take j))
  m3 : FacM wx B3 f3 c3 L.length (mkF L) (mkC L)
  it : RowV rtL 4 wx va (plF L)
  cs : wx.cell? ⟨Bs, 0, none⟩ = some va
  cg : wx.cell? ⟨Bg, 0, none⟩ = some (.func (.func 37) #[] #[])
  r0 : wx.cell? ⟨R, 0, none⟩ = some (.bool false)
  rf : wx.frozen? ⟨R, 0, none⟩ = false
  h0 : wx.cell? ⟨H, 0, none⟩ = some (.pointer (some ⟨B3, 0, none⟩))
  bel : Below w.heap.size w wx
theorem CopS.keep {w wx wy : World} {R H B1 f1 c1 B2 f2 c2 B3 f3 c3 Bs Bg : Nat} {va : Value} {L M : List Tol} {i j : Nat} (h : CopS w wx R H B1 f1 c1 B2 f2 c2 B3 f3 c3 Bs Bg va L M i j) (hb : Below wx.heap.size wx wy) : CopS w wy R H B1 f1 c1 B2 f2 c2 B3 f3 c3 Bs Bg va L M i j :=
  ⟨h.m1.keep hb, h.m2.keep hb, h.m3.keep hb, h.it.keep hb, keepF hb h.cs, keepF hb h.cg, keepF hb h.r0, (hb.frozen (p := ⟨R, 0, none⟩) (ltF h.r0)).trans h.rf, keepF hb h.h0, onF h.bel hb⟩
theorem take_mk {L M : List Tol} {i : Nat} (hi : i < M.length) : mkF (L ++ M.take (i + 1)) = tolF (M.getD i default) (mkF (L ++ M.take i)) ∧ mkC (L ++ M.take (i + 1)) = tolC (M.getD i default) (mkC (L ++ M.take i)) := by
  rw [take_getD hi, ← List.append_assoc, mkF_snoc, mkC_snoc]
  exact ⟨rfl, rfl⟩
theorem CopS.tellF {w wx wy : World} {R H B1 f1 c1 B2 f2 c2 B3 f3 c3 Bs Bg : Nat} {va : Value} {L M : List Tol} {i j : Nat} (h : CopS w wx R H B1 f1 c1 B2 f2 c2 B3 f3 c3 Bs Bg va L M i j) (hd : DisS w.heap.size f1 c1 f2 c2 f3 c3) (hi : i < M.length) {row : Option Nat}
    (hm : FacM wy B1 f1 c1 (L.length + i + 1) (tolF (M.getD i default) (mkF (L ++ M.take i))) (tolC (M.getD i default) (mkC (L ++ M.take i)))) (hg : wx.grownBy wy row) (hr : row = some f1 ∨ row = some c1) : CopS w wy R H B1 f1 c1 B2 f2 c2 B3 f3 c3 Bs Bg va L M (i + 1) j := by
  have hp := h.m1.isMp hr
  have ne : ∀ b, b ≠ f1 → b ≠ c1 → some b ≠ row := fun b n1 n2 e => by
    rcases hr with h | h <;> (rw [h] at e; injection e with e)
    · exact n1 e
    · exact n2 e
  have low : ∀ k, row = some k → w.heap.size ≤ k := fun k hk => by
    rcases hr with h | h <;> (rw [h] at hk; injection hk with hk; subst hk)
    · exact hd.z1.1
    · exact hd.z1.2
  obtain ⟨e1, e2⟩ := take_mk (L := L) hi
  refine ⟨by rw [e1, e2]; exact hm, h.m2.mpk hp hg (ne _ hd.a.1.symm hd.a.2.2.1.symm) (ne _ hd.a.2.1.symm hd.a.2.2.2.symm), h.m3.mpk hp hg (ne _ hd.b.1.symm hd.b.2.2.1.symm) (ne _ hd.b.2.1.symm hd.b.2.2.2.symm), h.it.mpk hp hg, cell_mpk hp hg h.cs, cell_mpk hp hg h.cg, cell_mpk hp hg h.r0, frz_mpk hp hg h.r0 h.rf, cell_mpk hp hg h.h0, h.bel.grown hg h.bel.size low⟩
theorem CopS.tellG {w wx wy : World} {R H B1 f1 c1 B2 f2 c2 B3 f3 c3 Bs Bg : Nat} {va : Value} {L M : List Tol} {i j : Nat} (h : CopS w wx R H B1 f1 c1 B2 f2 c2 B3 f3 c3 Bs Bg va L M i j) (hd : DisS w.heap.size f1 c1 f2 c2 f3 c3) (hi : j < M.length) {row : Option Nat}
    (hm : FacM wy B2 f2 c2 (L.length + j + 1) (tolF (M.getD j default) (mkF (L ++ M.take j))) (tolC (M.getD j default) (mkC (L ++ M.take j)))) (hg : wx.grownBy wy row) (hr : row = some f2 ∨ row = some c2) : CopS w wy R H B1 f1 c1 B2 f2 c2 B3 f3 c3 Bs Bg va L M i (j + 1) := by
  have hp := h.m2.isMp hr
  have ne : ∀ b, b ≠ f2 → b ≠ c2 → some b ≠ row := fun b n1 n2 e => by
    rcases hr with h | h <;> (rw [h] at e; injection e with e)
    · exact n1 e
    · exact n2 e
  have low : ∀ k, row = some k → w.heap.size ≤ k := fun k hk => by
    rcases hr with h | h <;> (rw [h] at hk; injection hk with hk; subst hk)
    · exact hd.z2.1
    · exact hd.z2.2
  obtain ⟨e1, e2⟩ := take_mk (L := L) hi
  refine ⟨h.m1.mpk hp hg (ne _ hd.a.1 hd.a.2.1) (ne _ hd.a.2.2.1 hd.a.2.2.2), by rw [e1, e2]; exact hm, h.m3.mpk hp hg (ne _ hd.c.1.symm hd.c.2.2.1.symm) (ne _ hd.c.2.1.symm hd.c.2.2.2.symm), h.it.mpk hp hg, cell_mpk hp hg h.cs, cell_mpk hp hg h.cg, cell_mpk hp hg h.r0, frz_mpk hp hg h.r0 h.rf, cell_mpk hp hg h.h0, h.bel.grown hg h.bel.size low⟩

end Go.Proofs.Ytedjbmmegjgegaa

namespace Go.Proofs.Ytedjbmmegjgegaa
open Go.RowKit Go.Lib Go.Maps Go.Sort Go.Shelf
set_option linter.unusedVariables false
set_option linter.unusedSimpArgs false
attribute [local go_sem] Oper.semAt_some

/-- The first places. -/
def upF (c : Nat) : (k : Nat) → k ≤ c → List (Fin c)
  | 0, _ => []
  | k + 1, h => upF c k (Nat.le_of_succ_le h) ++ [⟨k, h⟩]
theorem upF_len (c : Nat) : ∀ k h, (upF c k h).length = k
  | 0, _ => rfl
  | k + 1, h => by rw [upF, List.length_append, upF_len c k]; rfl
def encF (m : List Fct) (j : Fin m.length) : Array Value := #[.agg (rtL (m.getD j.1 default)).toArray]
set_option maxRecDepth 100000 in
set_option maxHeartbeats 2000000 in
theorem titvF (n : Nat) (hn : 1 ≤ n) (Bs Bg : Nat) (v : Value) (m : List Fct) (hl : m.length ≤ 100000) (w : World) (hc : w.cell? ⟨Bs, 0, none⟩ = some v) (hg : w.cell? ⟨Bg, 0, none⟩ = some (.func (.func 37) #[] #[])) (hr : RowV rtL 4 w v m) :
    SeqStopsK Fence.wide n Try.prog 47 #[.pointer (some ⟨Bs, 0, none⟩), .pointer (some ⟨Bg, 0, none⟩)] (encF m) (fun A B => Below w.heap.size A B) (fun xs => xs = upF m.length m.length (Nat.le_refl _)) (fun _ => True) m.length w := fun l J Jx W hW hJ _ hY h0 => by
  have HFx := Lib.hid (fun (w' : World) (k d x y : Int) => fx1_any w' k d x y)
  have hr' := hr.keep hW
  have hc' := keepF hW hc
  have hg' := keepF hW hg
  obtain ⟨va, vc, rfl⟩ : ∃ a c, v = .slice a m.length c := by
    rcases hr with ⟨rfl, a, c, rfl⟩ | ⟨_, g, c, rfl, _⟩
    · exact ⟨_, _, rfl⟩
    · exact ⟨_, _, rfl⟩
  refine callsIn_of_wp Try.func47 rfl trivial ?_ rfl
  simp only [Try.ntmps47, List.size_toArray, List.length_cons, List.length_nil, Nat.reduceAdd, Nat.reduceSub, Array.replicate_succ, Array.replicate_zero, List.push_toArray, List.append_toArray, List.nil_append, List.cons_append]
  gi_wp2
  gi_loopw [8] (fun vi wr => ∃ (i : Nat) (hi : i ≤ m.length), vi = .int .i64 (i : Nat) ∧ J (upF m.length i hi) wr ∧ Below w.heap.size w wr ∧ W.heap.size ≤ wr.heap.size)
    (fun vi _ => m.length - (RowKit.intOf vi).toNat)
  case atStart => exact ⟨0, Nat.zero_le _, rfl, h0, hW, Nat.le_refl _⟩
  case round =>
    obtain ⟨i, hi, rfl, hJi, hbr, hsz⟩ := hrel
    have hcr := keepF hbr hc
    have hgr := keepF hbr hg
    by_cases hlt : i < m.length
    · have p0 : (0 : Int) ≤ (i : Int) := by omega
      have p1 : (i : Int) < (m.length : Int) := by omega
      obtain ⟨g, cap, hv, hc1, hc2, hT⟩ : ∃ g cap, Value.slice va m.length vc = .slice (some ⟨g, 0, none⟩) m.length cap ∧ m.length ≤ cap ∧ cap ≤ 9223372036854775807 ∧ ∀ j, j < m.length → ∀ i c, i < 4 → (rtL (m.getD j default))[i]? = some c → wr.cell? ⟨g, j * 4 + i, none⟩ = some c := by
        rcases hr.keep hbr with ⟨e, _⟩ | ⟨_, g, cap, h1, h2, h3, h4⟩
        · rw [e] at hlt; exact absurd hlt (Nat.not_lt_zero _)
        · exact ⟨g, cap, h1, h2, h3, h4⟩
      injection hv with hv1 _ hv3
      subst hv1 hv3
      have k0 : wr.cell? ⟨g, i * 4, none⟩ = some (.int .i64 (m.getD i default).k) := hT i hlt 0 _ (by omega) rfl
      have k1 : wr.cell? ⟨g, i * 4 + 1, none⟩ = some (.int .i64 (m.getD i default).d) := hT i hlt 1 _ (by omega) rfl
      have k2 : wr.cell? ⟨g, i * 4 + 2, none⟩ = some (.int .i64 (m.getD i default).x) := hT i hlt 2 _ (by omega) rfl
      have k3 : wr.cell? ⟨g, i * 4 + 3, none⟩ = some (.int .i64 (m.getD i default).y) := hT i hlt 3 _ (by omega) rfl
      have HYx := Lib.hid (fun W hJ => hY (upF m.length i hi) ⟨i, hlt⟩ W hJ (by rw [upF_len]; exact hlt))
      have HNx : Hid (∀ W, J (upF m.length i hi ++ [⟨i, hlt⟩]) W → J (upF m.length (i + 1) hlt) W) := Lib.hid (fun W h => h)
      dsimp only [encF] at HYx
      generalize m.getD i default = y at *
      obtain ⟨yk, yd, yx, yy, yp⟩ := y
      dsimp only at k0 k1 k2 k3
      have hgr2 := fun o => keepF (newF wr o) hgr
      have HLt := Lib.hid hlt
      clear hT hcr hgr
      gi_wp2
      refine wideF (HFx.out _ _ _ _ _) ?_
      rintro e W2 ⟨rfl, hb2⟩
      have hbx := onF (newF wr (.cells #[.int .i64 yk, .int .i64 yd, .int .i64 yx, .int .i64 yy] 92)) hb2
      have hJ2 : J (upF m.length i hi) W2 := hJ _ wr W2 none hJi (grown_below hbx) (fun r e => by cases e)
      obtain ⟨fn, tmps, assign, body, hy, hR⟩ := HYx.out W2 hJ2
      have HBr := Lib.hid (onF hbr hbx)
      have HSz : Hid (W.heap.size ≤ W2.heap.size) := Lib.hid (Nat.le_trans hsz hbx.size)
      dsimp only [rtL] at hy
      clear hb2 hbx hJ2 hJi hbr hsz hgr2
      gi_wp2
      refine hR.mono ?_
      rintro e W3 (⟨rfl, hJ3, hk3⟩ | ⟨rfl, hJx3⟩)
      · have HJ3 := Lib.hid hJ3
        have HB3 := Lib.hid (HBr.out.trans hk3)
        have HSz3 : Hid (W.heap.size ≤ W3.heap.size) := Lib.hid (Nat.le_trans HSz.out hk3.size)
        clear hJ3 hk3 hR hy
        gi_wp2
        go_roundw
        case rel => exact ⟨i + 1, HLt.out, by go_num, HNx.out _ HJ3.out, HB3.out, HSz3.out⟩
        case measure => have := HLt.out; simp [RowKit.intOf]; omega
      · have HX := Lib.hid hJx3
        clear hJx3 hR hy
        gi_wp2
        refine bodyPost_ret (results_none rfl _ _ _) rfl ?_
        exact ⟨⟨_, rfl⟩, .inr ⟨_, trivial, HX.out⟩⟩
    · have hie : i = m.length := by omega
      subst hie
      have p1 : ¬ (m.length : Int) < (m.length : Int) := by omega
      gi_wp2
      go_end0
      exact ⟨⟨_, rfl⟩, .inl hJi⟩


end Go.Proofs.Ytedjbmmegjgegaa

namespace Go.Proofs.Ytedjbmmegjgegaa
open Go.RowKit Go.Lib Go.Maps Go.Sort Go.Shelf
set_option linter.unusedVariables false
set_option linter.unusedSimpArgs false
attribute [local go_sem] Oper.semAt_some

theorem box_false (w : World) : (w.alloc (.cells #[.bool false] 4)).cell? ⟨w.heap.size, 0, none⟩ = some (.bool false) ∧ (w.alloc (.cells #[.bool false] 4)).frozen? ⟨w.heap.size, 0, none⟩ = false := by
  refine ⟨?_, World.frozen?_alloc_at _ _ _ _ rfl⟩
  rw [World.cell?_alloc_at _ _ _ _ rfl]; rfl
theorem wide_rdC {lp n m : Nat} {P : Program} {f : FuncId} {args : Array Value} {w : World} {R R' : Ending → World → Prop} (h : Calls P f args w R) (hm : ∀ e w', R e w' → R' e w') : Fence.wide.fn f ∧ (Fence.wide.depth.isSome = true → 1 ≤ n) ∧ CallsIn (Fence.wide.inRound lp) m P f args w R' :=
  ⟨trivial, fun h => (by cases h), (CallsIn.inRound lp (callsIn_wide.2 h)).mono hm⟩
theorem set_oneC {w : World} {X b i : Nat} {v : Value} (h : b ≠ X) : (w.setCell ⟨X, 0, none⟩ v).cell? ⟨b, i, none⟩ = w.cell? ⟨b, i, none⟩ := by
  rw [cell_other (fun e => h (by injection e with e _ _; exact e.symm))]
/-- All that lay ahead of a place. -/
structure LowS (z0 z R B1 f1 c1 B2 f2 c2 B3 f3 c3 : Nat) : Prop where
  a : z0 ≤ z ∧ R < z
  b : B1 < z ∧ f1 < z ∧ c1 < z
  c : B2 < z ∧ f2 < z ∧ c2 < z
  d : B3 < z ∧ f3 < z ∧ c3 < z
theorem RowV.own {E : Fct → List Value} {k : Nat} {w w' : World} {v : Value} {m : List Fct} (h : RowV E k w v m) {row : Option Nat} (hg : w.grownBy w' row) (hr : ∀ r, row = some r → ∃ o : Obj, w.heap[r]? = some o ∧ o.isCells = false) : RowV E k w' v m := by
  rcases h with h | ⟨h0, g, cap, h1, h2, h3, h4⟩
  · exact .inl h
  · exact .inr ⟨h0, g, cap, h1, h2, h3, fun j hj i c hi hc => cell_kept (h4 j hj i c hi hc) hg hr⟩
theorem FacM.own {w w' : World} {B bf bc n z : Nat} {Df Dc : DataW Unit} (h : FacM w B bf bc n Df Dc) {row : Option Nat} (hg : w.grownBy w' row) (hr : ∀ r, row = some r → z ≤ r) (hz : B < z ∧ bf < z ∧ bc < z) : FacM w' B bf bc n Df Dc :=
  h.grown hg (fun e => by have := hr B e.symm; omega) (fun e => by have := hr bf e.symm; omega) (fun e => by have := hr bc e.symm; omega)
theorem CopS.own {w wx wy : World} {R H B1 f1 c1 B2 f2 c2 B3 f3 c3 Bs Bg z : Nat} {va : Value} {L M : List Tol} {i j : Nat} (h : CopS w wx R H B1 f1 c1 B2 f2 c2 B3 f3 c3 Bs Bg va L M i j) (hz : LowS w.heap.size z R B1 f1 c1 B2 f2 c2 B3 f3 c3) {row : Option Nat} (hg : wx.grownBy wy row) (hr : ∀ r, row = some r → z ≤ r ∧ ∃ o : Obj, wx.heap[r]? = some o ∧ o.isCells = false) : CopS w wy R H B1 f1 c1 B2 f2 c2 B3 f3 c3 Bs Bg va L M i j := by
  have h1 : ∀ r, row = some r → z ≤ r := fun r e => (hr r e).1
  have h2 : ∀ r, row = some r → ∃ o : Obj, wx.heap[r]? = some o ∧ o.isCells = false := fun r e => (hr r e).2
  refine ⟨h.m1.own hg h1 hz.b, h.m2.own hg h1 hz.c, h.m3.own hg h1 hz.d, h.it.own hg h2, cell_kept h.cs hg h2, cell_kept h.cg hg h2, cell_kept h.r0 hg h2, ?_, cell_kept h.h0 hg h2, h.bel.grown hg h.bel.size (fun k hk => Nat.le_trans hz.a.1 (h1 k hk))⟩
  exact (World.frozen?_of_block (a := ⟨R, 0, none⟩) (hg.block R (ltF h.r0) (fun e => by have := h1 R e.symm; have := hz.a.2; omega))).trans h.rf
theorem CopS.low {w wx : World} {R H B1 f1 c1 B2 f2 c2 B3 f3 c3 Bs Bg : Nat} {va : Value} {L M : List Tol} {i j : Nat} (h : CopS w wx R H B1 f1 c1 B2 f2 c2 B3 f3 c3 Bs Bg va L M i j) : LowS w.heap.size wx.heap.size R B1 f1 c1 B2 f2 c2 B3 f3 c3 :=
  ⟨⟨h.bel.size, ltF h.r0⟩, ⟨h.m1.blt, h.m1.hf.lt, h.m1.hc.lt⟩, ⟨h.m2.blt, h.m2.hf.lt, h.m2.hc.lt⟩, ⟨h.m3.blt, h.m3.hf.lt, h.m3.hc.lt⟩⟩
theorem FacM.setN {w : World} {B bf bc n N : Nat} {Df Dc : DataW Unit} (hm : FacM w B bf bc n Df Dc) (hb : B < N ∧ bf < N ∧ bc < N) (v : Value) : FacM (w.setCell ⟨N, 0, none⟩ v) B bf bc n Df Dc := by
  have hg : Below N w (w.setCell ⟨N, 0, none⟩ v) := by
    refine Below.setCell (Below.refl _ _) ?_ _
    exact Nat.le_refl _
  have kc : ∀ b i u, b < N → w.cell? ⟨b, i, none⟩ = some u → (w.setCell ⟨N, 0, none⟩ v).cell? ⟨b, i, none⟩ = some u := fun b i u hb hc => (cell_other (fun e => by injection e with e; omega)).trans hc
  obtain ⟨es, ck, hb1, r1⟩ := hm.hf
  obtain ⟨es', ck', hb2, r2⟩ := hm.hc
  exact ⟨kc _ _ _ hb.1 hm.c0, kc _ _ _ hb.1 hm.c1, ⟨es, ck, (hg.block _ hb.2.1).trans hb1, r1⟩, ⟨es', ck', (hg.block _ hb.2.2).trans hb2, r2⟩, hm.ne, hm.nf, hm.nc⟩
/-- A cell beyond all that is set. -/
theorem CopS.set {w wx : World} {R H B1 f1 c1 B2 f2 c2 B3 f3 c3 Bs Bg : Nat} {va : Value} {L M : List Tol} {i j N : Nat} (h : CopS w wx R H B1 f1 c1 B2 f2 c2 B3 f3 c3 Bs Bg va L M i j) (hz : LowS w.heap.size N R B1 f1 c1 B2 f2 c2 B3 f3 c3) (hB : Bs < N ∧ Bg < N ∧ H < N) (hV : ∀ g n cap, va = .slice (some ⟨g, 0, none⟩) n cap → 0 < (plF L).length → g < N) (v : Value) : CopS w (wx.setCell ⟨N, 0, none⟩ v) R H B1 f1 c1 B2 f2 c2 B3 f3 c3 Bs Bg va L M i j := by
  have hg : Below N wx (wx.setCell ⟨N, 0, none⟩ v) := by
    refine Below.setCell (Below.refl _ _) ?_ _
    exact Nat.le_refl _
  have kc : ∀ b i u, b < N → wx.cell? ⟨b, i, none⟩ = some u → (wx.setCell ⟨N, 0, none⟩ v).cell? ⟨b, i, none⟩ = some u := fun b i u hb hc => (cell_other (fun e => by injection e with e; omega)).trans hc
  have km : ∀ {B bf bc n : Nat} {Df Dc : DataW Unit}, FacM wx B bf bc n Df Dc → B < N ∧ bf < N ∧ bc < N → FacM (wx.setCell ⟨N, 0, none⟩ v) B bf bc n Df Dc := fun hm hb => by
    obtain ⟨es, ck, hb1, r1⟩ := hm.hf
    obtain ⟨es', ck', hb2, r2⟩ := hm.hc
    exact ⟨kc _ _ _ hb.1 hm.c0, kc _ _ _ hb.1 hm.c1, ⟨es, ck, (hg.block _ hb.2.1).trans hb1, r1⟩, ⟨es', ck', (hg.block _ hb.2.2).trans hb2, r2⟩, hm.ne, hm.nf, hm.nc⟩
  refine ⟨km h.m1 hz.b, km h.m2 hz.c, km h.m3 hz.d, ?_, kc _ _ _ hB.1 h.cs, kc _ _ _ hB.2.1 h.cg, kc _ _ _ hz.a.2 h.r0, by rw [World.frozen?_setCell]; exact h.rf, kc _ _ _ hB.2.2 h.h0, h.bel.trans (hg.mono hz.a.1)⟩
  rcases h.it with h | ⟨h0, g, cap, h1, h2, h3, h4⟩
  · exact .inl h
  · exact .inr ⟨h0, g, cap, h1, h2, h3, fun j hj i c hi hc => kc _ _ _ (hV g _ _ h1 h0) (h4 j hj i c hi hc)⟩
set_option maxRecDepth 100000 in
set_option maxHeartbeats 0 in
theorem fcopies_walk (w : World) (v1 : Value) (L : List Tol) (h1 : SlTol w v1 L) (hok1 : ∀ j, j < L.length → (L.getD j default).Ok) (v2 : Value) (M : List Tol) (h2 : SlTol w v2 M) (hok2 : ∀ j, j < M.length → (M.getD j default).Ok) :
    Calls Try.prog 6 #[v1, v2] w fun e w' => e = .returned (.bool true) ∧ Below w.heap.size w w' := by
  have HAw := Lib.hid (fun w' : World => awake7_any w')
  obtain ⟨a1, c1', rfl⟩ : ∃ a c, v1 = .slice a L.length c := by
    rcases h1 with ⟨rfl, a, c, rfl⟩ | ⟨_, b, o, c, rfl, _⟩
    · exact ⟨_, _, rfl⟩
    · exact ⟨_, _, rfl⟩
  obtain ⟨a2, c2', rfl⟩ : ∃ a c, v2 = .slice a M.length c := by
    rcases h2 with ⟨rfl, a, c, rfl⟩ | ⟨_, b, o, c, rfl, _⟩
    · exact ⟨_, _, rfl⟩
    · exact ⟨_, _, rfl⟩
  have HB0 := Lib.hid (newF w (.cells #[.bool false] 4))
  have HR0 := Lib.hid (box_false w)
  by_cases l1 : 40 < L.length
  · have i1 : (40 : Int) < (L.length : Int) := by omega
    clear h1 h2 hok1 hok2 l1
    go_enter Try.func6, Try.ntmps6
    go_wp2_with fail
    refine (HAw.out _).mono ?_
    rintro e w2 ⟨rfl, hb2⟩
    have HB2 := Lib.hid (onF HB0.out hb2)
    have r0 := keepF hb2 HR0.out.1
    have rf := (hb2.frozen (p := ⟨w.heap.size, 0, none⟩) (by simp)).trans HR0.out.2
    clear hb2
    go_wp2_with fail
    exact bodyPost_ret (v := .bool true) (by simp [results, Try.results6, go_sem, r0]) rfl ⟨rfl, Below.setCell HB2.out (Nat.le_refl _) _⟩
  have i1 : ¬ (40 : Int) < (L.length : Int) := by omega
  by_cases l2 : 20 < M.length
  · have i2 : (20 : Int) < (M.length : Int) := by omega
    clear h1 h2 hok1 hok2 l1 l2
    go_enter Try.func6, Try.ntmps6
    go_wp2_with fail
    refine (HAw.out _).mono ?_
    rintro e w2 ⟨rfl, hb2⟩
    have HB2 := Lib.hid (onF HB0.out hb2)
    have r0 := keepF hb2 HR0.out.1
    have rf := (hb2.frozen (p := ⟨w.heap.size, 0, none⟩) (by simp)).trans HR0.out.2
    clear hb2
    go_wp2_with fail
    exact bodyPost_ret (v := .bool true) (by simp [results, Try.results6, go_sem, r0]) rfl ⟨rfl, Below.setCell HB2.out (Nat.le_refl _) _⟩
  have i2 : ¬ (20 : Int) < (M.length : Int) := by omega
  have HL := Lib.hid (show L.length ≤ 40 ∧ M.length ≤ 20 from ⟨by omega, by omega⟩)
  have HMd := Lib.hid (fun (w' : World) (hs : SlTol w' (.slice a1 L.length c1') L) => made_any w' _ L hs hok1)
  have HS1 := Lib.hid h1
  have HS2 := Lib.hid h2
  have HOk := Lib.hid hok2
  have hrel := rel_made L L.length (Nat.le_refl _) hok1
  rw [List.take_length] at hrel
  have HRl := Lib.hid (And.intro hrel.1 hrel.2.1)
  have HPl := Lib.hid hrel.2.2.1
  have HNn := Lib.hid (And.intro (plF_n L [] (fun t h => by cases h)) (plC_n L [] (fun t h => by cases h)))
  have HLM := Lib.hid (rel_made (L ++ M) (L ++ M).length (Nat.le_refl _) (fun j hj => by
    rw [List.length_append] at hj
    by_cases c : j < L.length
    · rw [List.getD_eq_getElem?_getD, List.getElem?_append_left c, ← List.getD_eq_getElem?_getD]; exact hok1 j c
    · rw [List.getD_eq_getElem?_getD, List.getElem?_append_right (by omega), ← List.getD_eq_getElem?_getD]; exact hok2 _ (by omega)))
  clear hrel h1 h2 hok1 hok2 l1 l2
  obtain ⟨n, hn⟩ : ∃ n : Nat, 4 ≤ n := ⟨4, by omega⟩
  have hn1 : 1 ≤ n := by omega
  refine callsIn_wide.1 (callsIn_of_wp_marks (n := n) Try.func6 rfl trivial ?_ rfl)
  simp only [Try.ntmps6, List.size_toArray, List.length_cons, List.length_nil, Nat.reduceAdd, Nat.reduceSub, Array.replicate_succ, Array.replicate_zero, List.push_toArray, List.append_toArray, List.nil_append, List.cons_append]
  refine wpIn_wide.2 ?_
  go_wp2_with fail
  refine (HMd.out _ (HS1.out.keep HB0.out)).mono ?_
  rintro e w1 ⟨B1, f1, c1, rfl, hm1, hB1, hf1, hc1, hb1⟩
  have HM1 := Lib.hid hm1
  have HB1 := Lib.hid (onF HB0.out hb1)
  have HR1 := Lib.hid hb1
  have HZ1 : Hid (w.heap.size ≤ f1 ∧ w.heap.size ≤ c1 ∧ f1 < w1.heap.size ∧ c1 < w1.heap.size) := Lib.hid ⟨Nat.le_trans HB0.out.size hf1, Nat.le_trans HB0.out.size hc1, hm1.hf.lt, hm1.hc.lt⟩
  clear hm1 hB1 hf1 hc1 hb1
  go_wp2_with fail
  refine (HMd.out _ (HS1.out.keep HB1.out)).mono ?_
  rintro e w2 ⟨B2, f2, c2, rfl, hm2, hB2, hf2, hc2, hb2⟩
  have HM2 := Lib.hid hm2
  have HM12 := Lib.hid (HM1.out.keep hb2)
  have HB2 := Lib.hid (onF HB1.out hb2)
  have HR2 := Lib.hid (onF HR1.out hb2)
  have HZ2 : Hid (w1.heap.size ≤ f2 ∧ w1.heap.size ≤ c2 ∧ f2 < w2.heap.size ∧ c2 < w2.heap.size ∧ w1.heap.size ≤ w2.heap.size) := Lib.hid ⟨hf2, hc2, hm2.hf.lt, hm2.hc.lt, hb2.size⟩
  have HCp := Lib.hid (fcopy_any w2 HM12.out)
  clear hm2 hB2 hf2 hc2 hb2 HM1 HB1 HR1
  go_wp2_with fail
  refine HCp.out.mono ?_
  rintro e w3 ⟨B3, f3, c3, rfl, hm3, hB3, hf3, hc3, hb3⟩
  have HM3 := Lib.hid hm3
  have HM23 := Lib.hid (HM2.out.keep hb3)
  have HM13 := Lib.hid (HM12.out.keep hb3)
  have HB3 := Lib.hid (onF HB2.out hb3)
  have HR3 := Lib.hid (onF HR2.out hb3)
  have HD : Hid (DisS w.heap.size f1 c1 f2 c2 f3 c3) := Lib.hid (by
    have z1 := HZ1.out
    have z2 := HZ2.out
    have z3 : w1.heap.size ≤ w2.heap.size := z2.2.2.2.2
    exact ⟨⟨z1.1, z1.2.1⟩, ⟨by omega, by omega⟩, ⟨by omega, by omega, by omega, by omega⟩, ⟨by omega, by omega, by omega, by omega⟩, ⟨by omega, by omega, by omega, by omega⟩⟩)
  have HZ3 : Hid (w.heap.size < w3.heap.size) := Lib.hid (Nat.lt_of_lt_of_le (by simp) (HR3.out.size))
  have HFx := Lib.hid (methv_r (HM13.out.keep (newF w3 (.cells #[.pointer (some ⟨B3, 0, none⟩)] 23))) (by have := HM13.out.hf.size_le; have := HL.out; omega))
  have hh0 : (w3.alloc (.cells #[.pointer (some ⟨B3, 0, none⟩)] 23)).cell? ⟨w3.heap.size, 0, none⟩ = some (.pointer (some ⟨B3, 0, none⟩)) := by rw [World.cell?_alloc_at _ _ _ _ rfl]; rfl
  have HH := Lib.hid hh0
  clear hm3 hB3 hf3 hc3 hb3 HM2 HM12 HB2 HR2 HCp HZ1 HZ2 hh0
  go_wp2_with fail
  refine HFx.out.mono ?_
  rintro e w4 ⟨Bs, Bg, va, m, ps, rfl, hs, hp, hall, hcs, hcg, hov, hb4⟩
  have hma := all_is one_R hall HRl.out.1 HNn.out.1 hs hp
  subst hma
  have HC4 : Hid (CopS w w4 w.heap.size w3.heap.size B1 f1 c1 B2 f2 c2 B3 f3 c3 Bs Bg va L M 0 0) := Lib.hid (by
    have hbx := onF (newF w3 (.cells #[.pointer (some ⟨B3, 0, none⟩)] 23)) hb4
    have hbr := onF HR3.out hbx
    refine ⟨?_, ?_, HM3.out.keep hbx, OwnV.row (E := rtL) (k := 4) (fun _ => rfl) hov, hcs, hcg, keepF hbr HR0.out.1, (hbr.frozen (p := ⟨w.heap.size, 0, none⟩) (by simp)).trans HR0.out.2, keepF hb4 HH.out, onF HB3.out hbx⟩
    · rw [List.take_zero, List.append_nil]; exact HM13.out.keep hbx
    · rw [List.take_zero, List.append_nil]; exact HM23.out.keep hbx)
  have hq := fnil_eq_r
  have hh := HC4.out.h0
  have HSm := Lib.hid (same_any w4 HC4.out.m3 HC4.out.m2 (by have := HL.out; omega) (by have := HL.out; omega) HRl.out.1 (by rw [List.take_zero, List.append_nil]; exact HRl.out.1) HRl.out.2 (by rw [List.take_zero, List.append_nil]; exact HRl.out.2) HNn.out.1 HNn.out.2)
  clear hs hp hall hcs hcg hov hb4 HFx HM3 HM13 HM23 HB3 HR3 HH
  go_wp2_with fail
  refine HSm.out.mono ?_
  rintro e w5 ⟨rfl, hb5⟩
  have HC5 := Lib.hid (HC4.out.keep hb5)
  clear hb5 HC4 HSm hh
  go_wp2_with fail
  go_loopw [9] (fun vi wx => ∃ i : Nat, i ≤ M.length ∧ vi = .int .i64 (i : Nat) ∧ CopS w wx w.heap.size w3.heap.size B1 f1 c1 B2 f2 c2 B3 f3 c3 Bs Bg va L M i i) (fun vi _ => M.length - (RowKit.intOf vi).toNat)
  case atStart => exact ⟨0, Nat.zero_le _, rfl, HC5.out⟩
  case round =>
    obtain ⟨i, hi, rfl, hC⟩ := hrel
    have HCr := Lib.hid hC
    clear hC HC5
    by_cases hlt : i < M.length
    · have p0 : (0 : Int) ≤ (i : Int) := by omega
      have p1 : (i : Int) < (M.length : Int) := by omega
      have hok := HOk.out i hlt
      obtain ⟨bb, o, cap, hv, hc1, hc2, hT⟩ : ∃ b o cap, Value.slice a2 M.length c2' = .slice (some ⟨b, o, none⟩) M.length cap ∧ M.length ≤ cap ∧ cap ≤ 9223372036854775807 ∧ ∀ j, j < M.length → TolC w b (o + j * 6) (M.getD j default) := by
        rcases HS2.out with ⟨e, _⟩ | ⟨_, b, o, cap, h1, h2, h3, h4⟩
        · rw [e] at hlt; exact absurd hlt (Nat.not_lt_zero _)
        · exact ⟨b, o, cap, h1, h2, h3, h4⟩
      injection hv with hv1 _ hv3
      subst hv1 hv3
      have HTi := Lib.hid (hT i hlt)
      have HLt := Lib.hid hlt
      have HTf := Lib.hid (fun (w' : World) (j : Nat) (h : CopS w w' w.heap.size w3.heap.size B1 f1 c1 B2 f2 c2 B3 f3 c3 Bs Bg va L M i j) => tell_any w' h.m1 (by have := HL.out; unfold maxLen; omega) (M.getD i default) hok)
      have HTg := Lib.hid (fun (w' : World) (j : Nat) (h : CopS w w' w.heap.size w3.heap.size B1 f1 c1 B2 f2 c2 B3 f3 c3 Bs Bg va L M j i) => tell_any w' h.m2 (by have := HL.out; unfold maxLen; omega) (M.getD i default) hok)
      have HUf := Lib.hid (fun (wx wy : World) (j : Nat) (h : CopS w wx w.heap.size w3.heap.size B1 f1 c1 B2 f2 c2 B3 f3 c3 Bs Bg va L M i j) (row : Option Nat) hm hg hr => h.tellF (wy := wy) HD.out HLt.out (row := row) hm hg hr)
      have HUg := Lib.hid (fun (wx wy : World) (j : Nat) (h : CopS w wx w.heap.size w3.heap.size B1 f1 c1 B2 f2 c2 B3 f3 c3 Bs Bg va L M j i) (row : Option Nat) hm hg hr => h.tellG (wy := wy) HD.out HLt.out (row := row) hm hg hr)
      clear hT hlt hok
      generalize M.getD i default = t at *
      obtain ⟨tc, tk, td, tx, ty, tp⟩ := t
      unfold tolV at HTf HTg
      dsimp only at HTf HTg
      generalize tolE (⟨tc, tk, td, tx, ty, tp⟩ : Tol) = E at *
      obtain ⟨k0, k1, k2, k3, k4, k5⟩ := HTi.out.keep HCr.out.bel
      dsimp only at k0 k1 k2 k3 k4 k5
      go_upto_region 14 with fail
      go_cut [68] from 50 to 68 (fun r wx => r = .bool false ∧ CopS w wx w.heap.size w3.heap.size B1 f1 c1 B2 f2 c2 B3 f3 c3 Bs Bg va L M (i + 1) (i + 1))
      case first =>
        have HC0 : Hid (CopS w wr.drew w.heap.size w3.heap.size B1 f1 c1 B2 f2 c2 B3 f3 c3 Bs Bg va L M i i) := Lib.hid (HCr.out.keep (Below.drew (Below.refl _ _)))
        have HK : Hid (TolC wr.drew bb (o + i * 6) ⟨tc, tk, td, tx, ty, tp⟩) := Lib.hid (HTi.out.keep HC0.out.bel)
        obtain ⟨k0, k1, k2, k3, k4, k5⟩ := HK.out
        dsimp only at k0 k1 k2 k3 k4 k5
        go_region_held3 (fun w' => w'.cell? ⟨bb, o + i * 6, none⟩ = some (.bool tc) ∧ w'.cell? ⟨bb, o + i * 6 + 1, none⟩ = some (.int .i64 tk) ∧ w'.cell? ⟨bb, o + i * 6 + 2, none⟩ = some (.int .i64 td) ∧ w'.cell? ⟨bb, o + i * 6 + 3, none⟩ = some (.int .i64 tx) ∧ w'.cell? ⟨bb, o + i * 6 + 4, none⟩ = some (.int .i64 ty) ∧ w'.cell? ⟨bb, o + i * 6 + 5, none⟩ = some (.int .i64 tp))
          (with_reducible exact ⟨k0, k1, k2, k3, k4, k5⟩)
          ((go_at_call 11; (first
             | (with_reducible refine (HTf.out _ _ HC0.out).mono ?_; rintro e w6 ⟨rfl, row, hm, hg, hrow⟩; have HCF := Lib.hid (HUf.out _ _ _ HC0.out row hm hg hrow); have HKK := Lib.hid (HTi.out.keep HCF.out.bel))
             | (with_reducible refine (HTg.out _ _ HC0.out).mono ?_; rintro e w6 ⟨rfl, row, hm, hg, hrow⟩; have HCG := Lib.hid (HUg.out _ _ _ HC0.out row hm hg hrow); have HKK := Lib.hid (HTi.out.keep HCG.out.bel))
             | (with_reducible refine (HTg.out _ _ HCF.out).mono ?_; rintro e w6 ⟨rfl, row, hm, hg, hrow⟩; have HCZ := Lib.hid (HUg.out _ _ _ HCF.out row hm hg hrow); have HKK := Lib.hid (HTi.out.keep HCZ.out.bel))
             | (with_reducible refine (HTf.out _ _ HCG.out).mono ?_; rintro e w6 ⟨rfl, row, hm, hg, hrow⟩; have HCZ := Lib.hid (HUf.out _ _ _ HCG.out row hm hg hrow); have HKK := Lib.hid (HTi.out.keep HCZ.out.bel))); clear hm hg hrow k0 k1 k2 k3 k4 k5; obtain ⟨k0, k1, k2, k3, k4, k5⟩ := HKK.out; dsimp only at k0 k1 k2 k3 k4 k5))
        all_goals go_wp2
        all_goals go_meet
        all_goals exact ⟨rfl, HCZ.out⟩
      case rest =>
        obtain ⟨rfl, hC⟩ := hcut
        have HCn := Lib.hid hC
        clear hC k0 k1 k2 k3 k4 k5 HTf HTg HUf HUg HTi HCr
        go_wp2_with fail
        go_roundw
        case rel => exact ⟨i + 1, HLt.out, by go_num, HCn.out⟩
        case measure => have := HLt.out; simp [RowKit.intOf]; omega
    · have hie : i = M.length := by omega
      subst hie
      have p1 : ¬ (M.length : Int) < (M.length : Int) := by omega
      clear hi hlt HOk HD
      go_wp2_with fail
      refine (HMd.out _ (HS1.out.keep HCr.out.bel)).mono ?_
      rintro e w6 ⟨B4, f4, c4, rfl, hm4, hB4, hf4, hc4, hb6⟩
      have HM4 := Lib.hid hm4
      have HC6 := Lib.hid (HCr.out.keep hb6)
      clear hm4 hB4 hf4 hc4 hb6 HCr HMd
      have HLw := Lib.hid HC6.out.low
      have HNe : Hid (w3.heap.size ≠ w.heap.size ∧ w6.heap.size ≠ w.heap.size) := Lib.hid ⟨Nat.ne_of_gt HZ3.out, Nat.ne_of_gt (ltF HC6.out.r0)⟩
      have HBx := Lib.hid (show Bs < w6.heap.size ∧ Bg < w6.heap.size ∧ w3.heap.size < w6.heap.size from ⟨ltF HC6.out.cs, ltF HC6.out.cg, ltF HC6.out.h0⟩)
      have HVa : Hid (∀ g n cap, va = .slice (some ⟨g, 0, none⟩) n cap → 0 < (plF L).length → g < w6.heap.size) := Lib.hid (fun g n cap e h0 => by
        rcases HC6.out.it with ⟨h, _⟩ | ⟨_, g', cap', h1, h2, h3, h4⟩
        · rw [h] at h0; exact absurd h0 (Nat.lt_irrefl _)
        · rw [e] at h1
          injection h1 with h1 _ _
          injection h1 with h1
          injection h1 with h1 _ _
          rw [h1]
          exact ltF (h4 0 h0 0 _ (by omega) rfl))
      go_wp2_with fail
      have b67 := newF w6 (.cells #[.int .i64 0] 3)
      have n0 : (w6.alloc (.cells #[.int .i64 0] 3)).cell? ⟨w6.heap.size, 0, none⟩ = some (.int .i64 0) := by rw [World.cell?_alloc_at _ _ _ _ rfl]; rfl
      have nf : (w6.alloc (.cells #[.int .i64 0] 3)).frozen? ⟨w6.heap.size, 0, none⟩ = false := World.frozen?_alloc_at _ _ _ _ rfl
      have hst := titvF (n - 1) (by omega) Bs Bg va (plF L) (by have := HPl.out; have := HL.out; omega) w6 HC6.out.cs HC6.out.cg HC6.out.it
      have HC7 := Lib.hid (HC6.out.keep b67)
      have HM47 := Lib.hid (HM4.out.keep b67)
      have hz7 : (w6.alloc (.cells #[.int .i64 0] 3)).heap.size = w6.heap.size + 1 := by simp
      have HM4l := Lib.hid (show B4 < w6.heap.size ∧ f4 < w6.heap.size ∧ c4 < w6.heap.size from ⟨HM4.out.blt, HM4.out.hf.lt, HM4.out.hc.lt⟩)
      have hLw7 : LowS w.heap.size (w6.alloc (.cells #[.int .i64 0] 3)).heap.size w.heap.size B1 f1 c1 B2 f2 c2 B3 f3 c3 := HC7.out.low
      have hM7 : B4 < (w6.alloc (.cells #[.int .i64 0] 3)).heap.size ∧ f4 < (w6.alloc (.cells #[.int .i64 0] 3)).heap.size ∧ c4 < (w6.alloc (.cells #[.int .i64 0] 3)).heap.size := by have := HM4l.out; omega
      clear HM4 HC6
      generalize w6.alloc (.cells #[.int .i64 0] 3) = W7 at *
      refine wpIn_wide.1 (wpIn_rangeFunc_ownH rfl hn1 (gf := 47) (lb := #[.pointer (some ⟨Bs, 0, none⟩), .pointer (some ⟨Bg, 0, none⟩)]) rfl trivial (enters_of Try.func47 (by kernel_rfl) rfl)
        hst (fun h h' => h.trans h') (fun W l o o' h1 h2 h3 h4 => belowK_b (w := w6) (Nat.le_refl _) W l o o' (by omega) h2 h3 h4) b67 (fun x => rfl)
        (fun pre W => CopS w W w.heap.size w3.heap.size B1 f1 c1 B2 f2 c2 B3 f3 c3 Bs Bg va L M M.length M.length ∧ FacM W B4 f4 c4 L.length (mkF L) (mkC L) ∧ W.cell? ⟨w6.heap.size, 0, none⟩ = some (.int .i64 (pre.length : Nat)) ∧ W.frozen? ⟨w6.heap.size, 0, none⟩ = false)
        (fun _ _ _ => False)
        (fun s A C row hs hg hr => by
          obtain ⟨q1, q2, q3, q4⟩ := hs
          exact ⟨q1.own hLw7 hg hr, q2.own hg (fun r e => (hr r e).1) hM7, cell_kept q3 hg (fun r e => (hr r e).2), (World.frozen?_of_block (a := ⟨w6.heap.size, 0, none⟩) (hg.block _ (ltF q3) (fun e => by have h9 : W7.heap.size ≤ w6.heap.size := (hr _ e.symm).1; omega))).trans q4⟩)
        (fun _ _ _ _ _ hs _ _ => hs)
        ⟨HC7.out, HM47.out, n0, nf⟩
        (fun x a' W => ∃ X, a' = { tmps := #[.slice a1 L.length c1', .slice a2 M.length c2', undef, undef, .pointer (some ⟨w.heap.size, 0, none⟩), .pointer (some ⟨B1, 0, none⟩), .pointer (some ⟨B2, 0, none⟩), .pointer (some ⟨w3.heap.size, 0, none⟩), .func (.func 47) #[] #[.pointer (some ⟨Bs, 0, none⟩), .pointer (some ⟨Bg, 0, none⟩)], .int .i64 (M.length : Nat), .pointer (some ⟨B4, 0, none⟩), .pointer (some ⟨w6.heap.size, 0, none⟩), .pointer (some ⟨X, 0, none⟩), undef, undef, .slice a1 L.length c1', .int .i64 (L.length : Nat), .bool false, .bool false, .slice a2 M.length c2', .int .i64 (M.length : Nat), .bool false, .bool false, undef, .slice a1 L.length c1', .pointer (some ⟨B1, 0, none⟩), .slice a1 L.length c1', .pointer (some ⟨B2, 0, none⟩), .pointer (some ⟨B1, 0, none⟩), .bool false, .bool false, .pointer (some ⟨B2, 0, none⟩), .bool false, .bool false, .pointer (some ⟨B1, 0, none⟩), .pointer (some ⟨B3, 0, none⟩), .pointer (some ⟨B1, 0, none⟩), .func (.func 47) #[] #[.pointer (some ⟨Bs, 0, none⟩), .pointer (some ⟨Bg, 0, none⟩)], .pointer (some ⟨B3, 0, none⟩), .bool false, .bool false, .func (.func 47) #[] #[.pointer (some ⟨Bs, 0, none⟩), .pointer (some ⟨Bg, 0, none⟩)], .bool false, .bool false, .bool false, .pointer (some ⟨B3, 0, none⟩), .pointer (some ⟨B2, 0, none⟩), .bool true, .bool false, .bool false, .int .i64 (M.length : Nat), .slice a2 M.length c2', .int .i64 (M.length : Nat), .bool false, u54, u55, u56, u57, u58, u59, u60, u61, u62, u63, u64, u65, u66, u67, u68, .slice a1 L.length c1', .pointer (some ⟨B4, 0, none⟩), .func (.func 47) #[] #[.pointer (some ⟨Bs, 0, none⟩), .pointer (some ⟨Bg, 0, none⟩)], .agg (rtL ((plF L).getD x.1 default)).toArray, undef, undef, undef, undef, undef, undef, undef, undef, undef, undef, undef, undef, undef, undef, undef, undef, undef, undef, undef, undef, undef, undef, undef, undef, undef, undef, undef, undef, undef, undef, undef, undef, undef, undef, undef, undef, undef, undef, undef, undef, undef, undef, undef, undef, undef], defers := [] } ∧ w6.heap.size < X ∧ ∀ j c, (rtL ((plF L).getD x.1 default))[j]? = some c → W.cell? ⟨X, j, none⟩ = some c)
        (fun x a' s A C row hs hg hr => by
          obtain ⟨X, e, hx6, h2⟩ := hs
          exact ⟨X, e, hx6, fun j c hj => cell_kept (h2 j c hj) hg (fun r e => (hr r e).2)⟩)
        ?assign ?body ?done ?stop)
      case assign =>
        rintro l pre x W K ⟨q1, q2, q3, q4⟩ hK
        unfold encF
        generalize (plF L).getD x.1 default = y at *
        dsimp only [rtL]
        gi_wp2
        refine hK _ _ (KeepsFrom.of_grownBy (World.grownBy_alloc W _ none) (fun j e => by cases e)) ((Below.refl _ W).alloc (by have := ltF q3; omega) _) ⟨q1.keep (newF _ _), q2.keep (newF _ _), keepF (newF _ _) q3, frz_mpk (fun r e => by cases e) (World.grownBy_alloc W _ none) q3 q4⟩ ⟨W.heap.size, rfl, ltF q3, fun j c hj => ?_⟩
        rw [World.cell?_alloc_at _ _ _ _ rfl]
        simpa [rtL] using hj
      case body =>
        rintro l pre x a' W hl hr ⟨q1, q2, q3, q4⟩ ⟨X, rfl, hxN, hx⟩ hlt
        have hmem : (plF L).getD x.1 default ∈ plF L := by
          rw [List.getD_eq_getElem?_getD, List.getElem?_eq_getElem x.2]
          exact List.getElem_mem x.2
        generalize (plF L).getD x.1 default = y at *
        have hyk := HRl.out.1.ok y hmem
        have hgt := gt_in HRl.out.1.srt hmem
        have hp40 : pre.length < 40 := by have := HPl.out; have := HL.out; omega
        have kx : ∀ v i c, (rtL y)[i]? = some c → (W.setCell ⟨w6.heap.size, 0, none⟩ v).cell? ⟨X, i, none⟩ = some c := fun v i c hc => (cell_other (fun e => by injection e with e; omega)).trans (hx i c hc)
        have y7 : ∀ v, (W.setCell ⟨w6.heap.size, 0, none⟩ v).cell? ⟨w3.heap.size, 0, none⟩ = some (.pointer (some ⟨B3, 0, none⟩)) := fun v => (cell_other (fun e => by injection e with e; have := HBx.out; omega)).trans q1.h0
        have x0 := fun v => kx v 0 _ rfl
        have x1 := fun v => kx v 1 _ rfl
        have x2 := fun v => kx v 2 _ rfl
        have x3 := fun v => kx v 3 _ rfl
        have hwr : IntKind.i64.wrap ((pre.length : Int) + 1) = (pre.length : Int) + 1 := IntWalk.i64_in _ (by omega)
        have h500 : ¬ (500 : Int) < (pre.length : Int) + 1 := by omega
        have HKx := Lib.hid kx
        have HQ1 := Lib.hid (fun v => q1.set (N := w6.heap.size) HLw.out ⟨HBx.out.1, HBx.out.2.1, HBx.out.2.2⟩ HVa.out v)
        have HQ2 := Lib.hid (fun v => q2.setN (N := w6.heap.size) HM4l.out v)
        have HN := Lib.hid (fun v => cell_same (v := v) q3)
        have HNf : Hid (∀ v, (W.setCell ⟨w6.heap.size, 0, none⟩ v).frozen? ⟨w6.heap.size, 0, none⟩ = false) := Lib.hid (fun v => by rw [World.frozen?_setCell]; exact q4)
        have HFx := Lib.hid (fun v => fixing_l _ (HQ1.out v).m3 HRl.out.1 y.k y.d hyk.1 hyk.2)
        have HLq := Lib.hid (ltF q3)
        have HzW := Lib.hid (show w6.heap.size ≤ W.heap.size from Nat.le_of_lt (ltF q3))
        rw [hgt] at HFx
        clear kx hx hmem hyk hgt q1 q2 hp40 hlt
        obtain ⟨yk, yd, yx, yy, yp⟩ := y
        dsimp only [rtL] at x0 x1 x2 x3 HFx HKx ⊢
        gi_wp2
        refine wide_rdC (HFx.out _) ?_
        rintro e w8 ⟨rfl, hb8⟩
        have hb9 := onF hb8 (newF w8 (.cells #[.int .i64 yx, .int .i64 yy] 29))
        have z2 := keepF hb9 (x2 _)
        have z3 := keepF hb9 (x3 _)
        have nn := keepF hb9 (HN.out (.int .i64 ((pre.length : Int) + 1)))
        have HB9 := Lib.hid hb9
        clear hb8 hb9 x0 x1 x2 x3 y7 HFx HN
        gi_wp2
        refine ⟨((KeepsOthers.setCell _ _ _).from _).trans (KeepsFrom.of_grownBy (grown_below HB9.out) (fun j e => by cases e)), ?_, (HQ1.out _).keep HB9.out, (HQ2.out _).keep HB9.out, ?_, ?_⟩
        · have hs : Below w6.heap.size W (W.setCell ⟨w6.heap.size, 0, none⟩ (.int .i64 ((pre.length : Int) + 1))) := by
            refine Below.setCell (Below.refl _ _) ?_ _
            exact Nat.le_refl _
          exact hs.trans (HB9.out.mono (by rw [World.size_setCell]; exact HzW.out))
        · have e : (((pre ++ [x]).length : Nat) : Int) = (pre.length : Int) + 1 := by simp
          rw [e]; exact nn
        · exact (HB9.out.frozen (p := ⟨w6.heap.size, 0, none⟩) (by rw [World.size_setCell]; exact HLq.out)).trans (HNf.out _)
      case done =>
        rintro D ys W hD rfl ⟨q1, q2, q3, q4⟩ hK
        rw [upF_len] at q3
        have HDl : Hid (D < W.heap.size) := Lib.hid (by
          rcases Nat.lt_or_ge D W.heap.size with h | h
          · exact h
          · rw [Array.getElem?_eq_none h] at hK; cases hK)
        have HNp : Hid (∀ t ∈ plF L, nR t) := Lib.hid HNn.out.1
        have HK := Lib.hid hK
        have HQ := Lib.hid q1
        have HB0 : Hid (Below W.heap.size W W.drew) := Lib.hid (Below.drew (Below.refl _ _))
        have hLM := HLM.out
        rw [List.take_length] at hLM
        have HSk := Lib.hid (fun (w' : World) (hb : Below W.heap.size W w') => same_any w' (q1.m3.keep hb) (q2.keep hb) (by have := HL.out; omega) (by have := HL.out; omega) HRl.out.1 HRl.out.1 HRl.out.2 HRl.out.2 HNn.out.1 HNn.out.2)
        have m1 := q1.m1
        have m2 := q1.m2
        rw [List.take_length] at m1 m2
        have HSf := Lib.hid (fun (w' : World) (hb : Below W.heap.size W w') => same_any w' (m1.keep hb) (m2.keep hb) (by have := HL.out; omega) (by have := HL.out; omega) hLM.1 hLM.1 hLM.2.1 hLM.2.1 (plF_n (L ++ M) [] (fun t h => by cases h)) (plC_n (L ++ M) [] (fun t h => by cases h)))
        have HFl := Lib.hid (fun (w' : World) (hb : Below W.heap.size W w') => listedv_r (q1.m3.keep hb) (by have := q1.m3.hf.size_le; have := HL.out; omega))
        have HKp := Lib.hid (fun (w' : World) (hb : Below W.heap.size W w') => And.intro (keepF hb q1.h0) (keepF hb q3))
        have HRp := Lib.hid (fun (w' : World) (hb : Below W.heap.size W w') => And.intro (keepF hb q1.r0) ((hb.frozen (p := ⟨w.heap.size, 0, none⟩) (ltF q1.r0)).trans q1.rf))
        obtain ⟨h0, n0⟩ := HKp.out _ HB0.out
        obtain ⟨r0, rf⟩ := HRp.out _ HB0.out
        clear m1 m2 hLM q1 q2 q3 q4 hK hst n0 nf
        obtain ⟨_, n0⟩ := HKp.out _ HB0.out
        go_upto_region 24 with fail
        go_region_held3 (fun w' => w'.cell? ⟨w3.heap.size, 0, none⟩ = some (.pointer (some ⟨B3, 0, none⟩)) ∧ w'.cell? ⟨w6.heap.size, 0, none⟩ = some (.int .i64 ((plF L).length : Nat)))
          (first | (with_reducible exact ⟨h0, n0⟩) | (with_reducible exact ⟨(set_oneC HNe.out.1).trans h0, (set_oneC HNe.out.2).trans n0⟩))
          (((first
            | (go_at_call 22; (first
                | (with_reducible refine (HSk.out _ HB0.out).mono ?_; rintro e wa ⟨rfl, hb⟩; have HBa := Lib.hid (onF HB0.out hb); have HBy := Lib.hid HBa.out)
                | (with_reducible refine (HSf.out _ HBa.out).mono ?_; rintro e wb ⟨rfl, hb⟩; have HBb := Lib.hid (onF HBa.out hb); have HBy := Lib.hid HBb.out)))
            | (go_at_call 10; with_reducible refine (HAw.out _).mono ?_; rintro e wd ⟨rfl, hb⟩; have HBd := Lib.hid (onF HBc.out hb); have HBy := Lib.hid HBd.out)
            | (go_at_call 14; with_reducible refine (HFl.out _ HBb.out).mono ?_; rintro e wc ⟨vv, mm, pss, rfl, hs, hp, hall, ho, hb⟩; have HBc := Lib.hid (onF HBb.out hb); have HBy := Lib.hid HBc.out; have hmm := all_is one_R hall HRl.out.1 HNp.out hs hp; obtain ⟨sa, sn, sc, hsn, rfl⟩ := ho.slice'; rw [hmm] at hsn; subst hsn; clear hmm hs hp hall ho)); clear hb h0 n0 r0 rf; obtain ⟨h0, n0⟩ := HKp.out _ HBy.out; obtain ⟨r0, rf⟩ := HRp.out _ HBy.out))
        all_goals go_wp2
        all_goals
          have hDw : w.heap.size ≤ D := by have := HLw.out.a.1; omega
          have hKd := (HBd.out.block D HDl.out).trans HK.out
          have hKw := (KeepsOthers.setCell wd ⟨w.heap.size, 0, none⟩ (.bool true)).same D _ hKd rfl
          refine ⟨by simp, .inl ⟨_, _, rfl, run_takeDeferred hKw, ?_⟩⟩
          have f0 : (wd.setCell ⟨w.heap.size, 0, none⟩ (.bool true)).cell? ⟨w.heap.size, 0, none⟩ = some (.bool true) := cell_same r0
          have g0 := cell_kept f0 (grownBy_putObj' _ D (.deferred none)) (fun r e => by cases e; exact ⟨_, hKw, rfl⟩)
          have hbw : Below w.heap.size w (wd.setCell ⟨w.heap.size, 0, none⟩ (.bool true)) := by
            refine Below.setCell (onF HQ.out.bel HBd.out) ?_ _
            exact Nat.le_refl _
          exact ⟨.bool true, by simp [results, Try.results6, go_sem, g0], rfl, hbw.trans (belowK_b (w := w) (Nat.le_refl _) _ D _ _ hDw hKw rfl rfl)⟩
      case stop =>
        rintro D c pre W _ _ h _
        exact h.elim

end Go.Proofs.Ytedjbmmegjgegaa

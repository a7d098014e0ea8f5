/-
  The queue's copy, an agenda's copy: what they answer.
-/
import Derived.Test.YtkfcaafjnolhgaaAlA
import Derived.Test.YtkfcaafjnolhgaaCln
import Derived.Shelf.SlMaps.Clone
import Derived.Deep.RegionHeld3
import Derived.Deep.Cut
namespace Go.Proofs.Ytkfcaafjnolhgaa
open Go.RowKit Go.Lib Go.Maps Go.Sort Go.Shelf
set_option linter.unusedVariables false
set_option linter.unusedSimpArgs false

theorem clone_it (w : World) {b n : Nat} {D : DataW Unit} (ho : w.ownsMap Try.prog 3 intElem b n D) :
    Calls Try.prog 48 #[.map (some b)] w fun e w' => ∃ x, e = .returned (.map (some x)) ∧ w.heap.size ≤ x ∧ w'.ownsMap Try.prog 3 intElem x n D ∧ Below w.heap.size w w' := by
  have h := AnyW.maps_Clone_owns (P := Try.prog) (ρ := Try.cloneIt_ren) Try.cloneIt 3 intElem b n D w ho
  exact Calls.mono h fun e w' ⟨h1, h2, _, h3⟩ => ⟨_, h1, Nat.le_refl _, h2, h3⟩
/-- A new queue over a row and a map of their own. -/
theorem QuM.new {w : World} {B b : Nat} {v : Value} {l : List It} {D : DataW Unit} (ho : OwnX itL 3 31 w B v l) (hm : w.ownsMap Try.prog 3 intElem b (Maps.size D) D) (hb : B ≤ b) (hB : B ≤ w.heap.size) (hne : v.ownBlock ≠ some b) : QuM (w.alloc (.cells #[v, .map (some b)] 78)) B w.heap.size b v l D :=
  ⟨(World.cell?_alloc_at _ _ _ _ rfl).trans rfl, (World.cell?_alloc_at _ _ _ _ rfl).trans rfl, World.frozen?_alloc_at _ _ _ _ rfl, ho.grown (newF _ _), hm.alloc _, fun e => by have := (ho.lt _ e).2; omega, hne, fun e => by have := hm.lt; omega, ⟨hB, hb⟩⟩
set_option maxHeartbeats 4000000 in
set_option maxRecDepth 100000 in
theorem qcopy_any (w : World) {base q bm : Nat} {lv : Value} {l : List It} {D : DataW Unit} (h : QuM w base q bm lv l D) (hl : l.length ≤ 10000) :
    Calls Try.prog 36 #[.pointer (some ⟨q, 0, none⟩)] w fun e w' => ∃ q' bm' lv', e = .returned (.pointer (some ⟨q', 0, none⟩)) ∧ QuM w' w.heap.size q' bm' lv' l D ∧ Below w.heap.size w w' := by
  have HSl := Lib.hid (fun (w' : World) (hb : Below w.heap.size w w') => sclone_any w' (h.hl.grown hb) hl)
  have HMp := Lib.hid (fun (w' : World) (hb : Below w.heap.size w w') => clone_it w' (h.hm.kept (grown_below hb) (by simp)))
  have HB0 : Hid (Below w.heap.size w w.drew) := Lib.hid (Below.drew (Below.refl _ _))
  have HC := Lib.hid (And.intro h.c0 h.c1)
  obtain ⟨a, cap, rfl⟩ := h.hl.slice
  have kd0 : w.drew.cell? ⟨q, 0, none⟩ = some (.slice a l.length cap) := h.c0
  have kd1 : w.drew.cell? ⟨q, 1, none⟩ = some (.map (some bm)) := h.c1
  clear h
  go_enter Try.func36, Try.ntmps36
  go_upto_region 1 with fail
  go_region_held3 (fun w' => w'.cell? ⟨q, 0, none⟩ = some (.slice a l.length cap) ∧ w'.cell? ⟨q, 1, none⟩ = some (.map (some bm)))
    (first | (with_reducible exact ⟨kd0, kd1⟩) | (with_reducible exact ⟨keepF (newF _ _) kd0, keepF (newF _ _) kd1⟩))
    (first
      | (go_at_call 47
         (first
           | (with_reducible refine (HSl.out _ HB0.out).mono ?_; rintro e w1 ⟨x, rfl, ox, hb⟩; obtain ⟨xa, xc, rfl⟩ := ox.slice; have HX1 := Lib.hid (And.intro (ox.base HB0.out.size) (onF HB0.out hb)); have HZ := Lib.hid (onF HB0.out hb))
           | (with_reducible refine (HSl.out _ HY1.out.2.2).mono ?_; rintro e w1 ⟨x, rfl, ox, hb⟩; obtain ⟨xa, xc, rfl⟩ := ox.slice; have HE : Hid ((Value.slice xa l.length xc).ownBlock ≠ some y) := Lib.hid (fun e => absurd (ox.lt _ e).1 (Nat.not_le_of_lt HY1.out.2.1.lt)); have HPx := Lib.hid (ox.base HY1.out.2.2.size); have HPy := Lib.hid (HY1.out.2.1.kept (grown_below hb) (by simp)); have HL := Lib.hid HY1.out.1; have HZ := Lib.hid (onF HY1.out.2.2 hb)))
         clear ox hb kd0 kd1
         have kd0 := keepF HZ.out HC.out.1
         have kd1 := keepF HZ.out HC.out.2)
      | (go_at_call 48
         (first
           | (with_reducible refine (HMp.out _ HB0.out).mono ?_; rintro e w1 ⟨y, rfl, hy, oy, hb⟩; have HY1 := Lib.hid (And.intro hy (And.intro oy (onF HB0.out hb))); have HZ := Lib.hid (onF HB0.out hb))
           | (with_reducible refine (HMp.out _ HX1.out.2).mono ?_; rintro e w1 ⟨y, rfl, hy, oy, hb⟩; have HE : Hid ((Value.slice xa l.length xc).ownBlock ≠ some y) := Lib.hid (fun e => absurd (HX1.out.1.lt y e).2 (Nat.not_lt_of_le hy)); have HPy := Lib.hid oy; have HPx := Lib.hid (HX1.out.1.grown hb); have HL := Lib.hid (Nat.le_trans HX1.out.2.size hy); have HZ := Lib.hid (onF HX1.out.2 hb)))
         clear hy oy hb kd0 kd1
         have kd0 := keepF HZ.out HC.out.1
         have kd1 := keepF HZ.out HC.out.2))
  all_goals go_wp2
  all_goals go_ret
  all_goals exact ⟨_, _, _, rfl, QuM.new HPx.out HPy.out HL.out HZ.out.size HE.out, onF HZ.out (newF _ _)⟩

/-- A new agenda over a queue of its own. -/
theorem AgV.new {w : World} {B q bm n : Nat} {lv : Value} {l L : List It} {D : DataW Unit} (hq : QuV w B q bm lv l D) (hp : l.Perm L) (hB : B ≤ w.heap.size) (hs : SrI L) (hn : ∀ x ∈ L, 0 ≤ x.no ∧ x.no < n) : AgV (w.alloc (.cells #[.pointer (some ⟨q, 0, none⟩), .int .i64 (n : Nat)] 64)) B w.heap.size q bm lv L n :=
  ⟨(World.cell?_alloc_at _ _ _ _ rfl).trans rfl, (World.cell?_alloc_at _ _ _ _ rfl).trans rfl, World.frozen?_alloc_at _ _ _ _ rfl, ⟨l, D, hq.keep (newF _ _), hp⟩, fun c => by have := hq.m.hi _ c; omega, hB, hs, hn⟩
set_option maxHeartbeats 4000000 in
set_option maxRecDepth 100000 in
theorem acopy_any (w : World) {base a q bm n : Nat} {lv : Value} {L : List It} (h : AgV w base a q bm lv L n) (hl : L.length ≤ 10000) :
    Calls Try.prog 22 #[.pointer (some ⟨a, 0, none⟩)] w fun e w' => ∃ a' q' bm' lv', e = .returned (.pointer (some ⟨a', 0, none⟩)) ∧ AgV w' w.heap.size a' q' bm' lv' L n ∧ Below w.heap.size w w' := by
  obtain ⟨l, D, hq, hp⟩ := h.qv
  have HQc := Lib.hid (qcopy_any w.drew (hq.m.keep (Below.drew (Below.refl _ _))) (by rw [hp.length_eq]; exact hl))
  have HC := Lib.hid (And.intro h.c0 h.c1)
  have HP := Lib.hid (And.intro hq hp)
  have HS := Lib.hid (And.intro h.sr h.nb)
  have kd0 : w.drew.cell? ⟨a, 0, none⟩ = some (.pointer (some ⟨q, 0, none⟩)) := h.c0
  have kd1 : w.drew.cell? ⟨a, 1, none⟩ = some (.int .i64 (n : Nat)) := h.c1
  clear h hq hp
  go_enter Try.func22, Try.ntmps22
  go_upto_region 3 with fail
  go_region_held3 (fun w' => w'.cell? ⟨a, 0, none⟩ = some (.pointer (some ⟨q, 0, none⟩)) ∧ w'.cell? ⟨a, 1, none⟩ = some (.int .i64 (n : Nat)))
    (first | (with_reducible exact ⟨kd0, kd1⟩) | (with_reducible exact ⟨keepF (newF _ _) kd0, keepF (newF _ _) kd1⟩))
    (first
      | (go_at_call 36; (with_reducible refine HQc.out.mono ?_); rintro e w1 ⟨q', bm', lv', rfl, hm, hb⟩; have HM := Lib.hid hm; have HZ : Hid (Below w.heap.size w w1) := Lib.hid (undrewB hb); clear hm hb kd0 kd1; have kd0 := keepF HZ.out HC.out.1; have kd1 := keepF HZ.out HC.out.2))
  all_goals go_wp2
  all_goals go_ret
  all_goals exact ⟨_, _, _, _, rfl, AgV.new ⟨HM.out, HP.out.1.p, HP.out.1.h, HP.out.1.k⟩ HP.out.2 HZ.out.size HS.out.1 HS.out.2, onF HZ.out (newF _ _)⟩

end Go.Proofs.Ytkfcaafjnolhgaa

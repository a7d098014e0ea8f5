/-
  What a contract within another one does: no program.
-/
import Derived.Test.YtjafbfepdmgjnaaGreatDoorEA
import Derived.Test.YtjafbfepdmgjnaaGreatDoorJr
import Derived.Test.YtjafbfepdmgjnaaGreatDoorEW
import Derived.Test.YtjafbfepdmgjnaaGreatDoorEoA
import Derived.Deep.RegionHeld3
namespace Go.Proofs.YtjafbfepdmgjnaaGreatDoor
open Go.RowKit Go.Lib
set_option linter.unusedVariables false

theorem bfF_asym {a b : Flw} (h : bfF a b) : ¬ bfF b a := fun h' => bfF_irr a (bfF_trans h h')
theorem putF_cons (a : Flw) (l : List Flw) (x : Flw) : putF (a :: l) x = if bfF x a then x :: a :: l else a :: putF l x := by
  unfold putF posF
  by_cases h : bfF x a
  · rw [if_pos h, List.takeWhile_cons_of_neg (by simp [h])]; rfl
  · rw [if_neg h, List.takeWhile_cons_of_pos (by simp [h])]; rfl
theorem putF_srt {l : List Flw} (x : Flw) (h : SrF l) : SrF (putF l x) := by
  induction l with
  | nil => exact List.pairwise_singleton _ _
  | cons a l ih =>
    obtain ⟨h1, h2⟩ := List.pairwise_cons.1 h
    rw [putF_cons]
    by_cases hx : bfF x a
    · rw [if_pos hx]
      refine List.pairwise_cons.2 ⟨fun b hb => ?_, h⟩
      rcases List.mem_cons.1 hb with rfl | hb
      · exact bfF_asym hx
      · intro hbx
        exact h1 b hb (bfF_trans hbx hx)
    · rw [if_neg hx]
      refine List.pairwise_cons.2 ⟨fun b hb => ?_, ih h2⟩
      rcases List.mem_cons.1 ((putF_perm l x).mem_iff.1 hb) with rfl | hb
      · exact hx
      · exact h1 b hb
end Go.Proofs.YtjafbfepdmgjnaaGreatDoor

namespace Go.Proofs.YtjafbfepdmgjnaaGreatDoor
open Go.RowKit Go.Lib
set_option linter.unusedVariables false

end Go.Proofs.YtjafbfepdmgjnaaGreatDoor

namespace Go.Proofs.YtjafbfepdmgjnaaGreatDoor
open Go.RowKit Go.Lib
set_option linter.unusedVariables false
set_option linter.unusedSimpArgs false

end Go.Proofs.YtjafbfepdmgjnaaGreatDoor

namespace Go.Proofs.YtjafbfepdmgjnaaGreatDoor
open Go.RowKit Go.Lib Go.Maps
set_option linter.unusedVariables false
set_option linter.unusedSimpArgs false

end Go.Proofs.YtjafbfepdmgjnaaGreatDoor

namespace Go.Proofs.YtjafbfepdmgjnaaGreatDoor
open Go.RowKit Go.Lib Go.Shelf Go.Maps
set_option linter.unusedVariables false
set_option linter.unusedSimpArgs false

end Go.Proofs.YtjafbfepdmgjnaaGreatDoor

namespace Go.Proofs.YtjafbfepdmgjnaaGreatDoor
open Go.RowKit Go.Lib Go.Shelf Go.Maps
set_option linter.unusedVariables false
set_option linter.unusedSimpArgs false

set_option maxRecDepth 100000 in
set_option maxHeartbeats 2000000 in
theorem waits_eq (w : World) (m : List Wat) (va vb : Value) (ha : RowX waL 3 w va m) (hb : RowX waL 3 w vb m) :
    Calls Tryz.prog 21 #[va, vb] w fun e w' => e = .returned (.bool true) ∧ Below w.heap.size w w' := by
  obtain ⟨aa, ac, rfl⟩ := ha.slice
  obtain ⟨ba, bc, rfl⟩ := hb.slice
  have HA := Lib.hid ha
  have HB := Lib.hid hb
  clear ha hb
  go_enter Tryz.func21, Tryz.ntmps21
  go_wp2_with fail
  go_loopw [5] (fun vi wx => ∃ j : Nat, j ≤ m.length ∧ vi = .int .i64 (j : Nat) ∧ ∃ q, wx = w.drewN q) (fun vi _ => m.length - (RowKit.intOf vi).toNat)
  case atStart => exact ⟨0, Nat.zero_le _, rfl, 0, rfl⟩
  case round =>
    obtain ⟨j, hj, rfl, q, hwx⟩ := hrel
    have HRa : Hid (RowX waL 3 wr (.slice aa m.length ac) m) := Lib.hid (by rw [hwx]; exact HA.out.keep (below_drewE _ _))
    have HRb : Hid (RowX waL 3 wr (.slice ba m.length bc) m) := Lib.hid (by rw [hwx]; exact HB.out.keep (below_drewE _ _))
    have HQ := Lib.hid hwx
    clear hwx
    by_cases hlt : j < m.length
    · have q0 : (0 : Int) ≤ (j : Int) := by omega
      have q1 : (j : Int) < (m.length : Int) := by omega
      obtain ⟨ga, oa, ca1, hv, hf1, hf2, hTa⟩ : ∃ g o cap, Value.slice aa m.length ac = .slice (some ⟨g, o, none⟩) m.length cap ∧ m.length ≤ cap ∧ cap ≤ 9223372036854775807 ∧ ∀ j, j < m.length → ∀ i c, i < 3 → (waL (m.getD j default))[i]? = some c → wr.cell? ⟨g, o + j * 3 + i, none⟩ = some c := by
        rcases HRa.out with ⟨e, _⟩ | ⟨_, g, o, cap, h1, h2, h3, h4⟩
        · rw [e] at hlt; exact absurd hlt (Nat.not_lt_zero _)
        · exact ⟨g, o, cap, h1, h2, h3, h4⟩
      injection hv with hv1 _ hv3
      subst hv1 hv3
      obtain ⟨gb, ob, cb1, hv, hg1, hg2, hTb⟩ : ∃ g o cap, Value.slice ba m.length bc = .slice (some ⟨g, o, none⟩) m.length cap ∧ m.length ≤ cap ∧ cap ≤ 9223372036854775807 ∧ ∀ j, j < m.length → ∀ i c, i < 3 → (waL (m.getD j default))[i]? = some c → wr.cell? ⟨g, o + j * 3 + i, none⟩ = some c := by
        rcases HRb.out with ⟨e, _⟩ | ⟨_, g, o, cap, h1, h2, h3, h4⟩
        · rw [e] at hlt; exact absurd hlt (Nat.not_lt_zero _)
        · exact ⟨g, o, cap, h1, h2, h3, h4⟩
      injection hv with hv1 _ hv3
      subst hv1 hv3
      have k0 : wr.cell? ⟨ga, oa + j * 3, none⟩ = some (.bool (decide ((m.getD j default).h = 1))) := hTa j hlt 0 _ (by omega) rfl
      have k1 : wr.cell? ⟨ga, oa + j * 3 + 1, none⟩ = some (.int .i64 (m.getD j default).k) := hTa j hlt 1 _ (by omega) rfl
      have k2 : wr.cell? ⟨ga, oa + j * 3 + 2, none⟩ = some (.int .i64 (m.getD j default).d) := hTa j hlt 2 _ (by omega) rfl
      have m0 : wr.cell? ⟨gb, ob + j * 3, none⟩ = some (.bool (decide ((m.getD j default).h = 1))) := hTb j hlt 0 _ (by omega) rfl
      have m1 : wr.cell? ⟨gb, ob + j * 3 + 1, none⟩ = some (.int .i64 (m.getD j default).k) := hTb j hlt 1 _ (by omega) rfl
      have m2 : wr.cell? ⟨gb, ob + j * 3 + 2, none⟩ = some (.int .i64 (m.getD j default).d) := hTb j hlt 2 _ (by omega) rfl
      have HLt := Lib.hid hlt
      generalize m.getD j default = y at *
      obtain ⟨yd, yc, yn⟩ := y
      dsimp only at k0 k1 k2 m0 m1 m2
      clear hTa hTb hlt HRa HRb
      generalize decide (yc = 1) = yb at *
      go_wp2_with fail
      go_quiet (fail)
      go_wp2_with fail
      go_roundw
      case rel => exact ⟨j + 1, HLt.out, by go_num, q + nq, by rw [HQ.out, World.drewN_drewN]⟩
      case measure => have := HLt.out; simp [RowKit.intOf]; omega
    · have hje : j = m.length := by omega
      subst hje
      have q1 : ¬ (m.length : Int) < (m.length : Int) := by omega
      have HBq : Hid (Below w.heap.size w wr) := Lib.hid (by rw [HQ.out]; exact below_drewE _ _)
      clear HRa HRb HQ hlt hj
      go_wp2_with fail
      go_ret
      exact ⟨rfl, HBq.out⟩

end Go.Proofs.YtjafbfepdmgjnaaGreatDoor

namespace Go.Proofs.YtjafbfepdmgjnaaGreatDoor
open Go.RowKit Go.Lib Go.Shelf Go.Maps
set_option linter.unusedVariables false
set_option linter.unusedSimpArgs false

end Go.Proofs.YtjafbfepdmgjnaaGreatDoor

namespace Go.Proofs.YtjafbfepdmgjnaaGreatDoor
open Go.RowKit Go.Lib Go.Shelf Go.Maps
set_option linter.unusedVariables false
set_option linter.unusedSimpArgs false

theorem take_flw {L : List Flw} {i : Nat} (h : i < L.length) : L.take (i + 1) = L.take i ++ [L.getD i default] := by
  rw [List.take_add_one, List.getElem?_eq_getElem h, List.getD_eq_getElem?_getD, List.getElem?_eq_getElem h]; rfl
end Go.Proofs.YtjafbfepdmgjnaaGreatDoor

namespace Go.Proofs.YtjafbfepdmgjnaaGreatDoor
open Go.RowKit Go.Lib
set_option linter.unusedVariables false
set_option linter.unusedSimpArgs false

theorem sub_sub {t : List Nd} {p n q m : Nat} (h : q + m ≤ n) : subT (subT t p n) q m = subT t (p + q) m := by
  unfold subT
  rw [List.drop_take, List.drop_drop, List.take_take, Nat.min_eq_left (by omega)]
theorem sub_U {t : List Nd} {p : Nat} (h : TmA t p) {q : Nat} (hq : q < szA t p) : subT (subT t p (szA t p)) q (szA (subT t p (szA t p)) q) = subT t (p + q) (szA t (p + q)) := by
  obtain ⟨h1, h2, h3, h4⟩ := tm_nest h hq
  rw [← h3, sub_sub (by omega)]
theorem sub_ky {t : List Nd} {p : Nat} (h : TmA t p) {q : Nat} (hq : q < szA t p) : kyU (subT t p (szA t p)) q = kyU t (p + q) := by
  unfold kyU; rw [sub_U h hq]
theorem vl_U {t : List Nd} {fx : Int → Option Rat} {k : Nat} (h : NmA t k) : vlA t fx k = vlA (subT t k (szA t k)) fx 0 := by
  have := vl_sub (fx := fx) h (szA t (k + 0)) 0 (by have := h.tm.bd; omega) (Nat.le_refl _)
  rw [Nat.add_zero] at this
  exact this.symm
/-- The terms below a contract within another one stand as they stand in it. -/
structure Ins (t : List Nd) (p : Nat) : Prop where
  ok : (ofK t).2 = 0
  ct : CtA t p
theorem Ins.tm {t : List Nd} {p : Nat} (h : Ins t p) : TmA t p := ok_tm h.ok h.ct.lt
theorem Ins.sub {t : List Nd} {p : Nat} (h : Ins t p) : (ofK (subT t p (szA t p))).2 = 0 := by rw [sub_of h.ok h.ct.lt]
theorem Ins.len {t : List Nd} {p : Nat} (h : Ins t p) : (subT t p (szA t p)).length = szA t p := subT_len h.tm.bd.2
theorem Ins.op {t : List Nd} {p : Nat} (h : Ins t p) {q : Nat} (hq : q < szA t p) : opA (subT t p (szA t p)) q = opA t (p + q) := subT_op h.tm.bd.2 hq
theorem Ins.a {t : List Nd} {p : Nat} (h : Ins t p) {q : Nat} (hq : q < szA t p) : aA (subT t p (szA t p)) q = aA t (p + q) := by unfold aA; rw [subT_get h.tm.bd.2 hq]
theorem Ins.b {t : List Nd} {p : Nat} (h : Ins t p) {q : Nat} (hq : q < szA t p) : bA (subT t p (szA t p)) q = bA t (p + q) := by unfold bA; rw [subT_get h.tm.bd.2 hq]
theorem Ins.kid {t : List Nd} {p : Nat} (h : Ins t p) {q : Nat} (hq : q < szA t p) {i : Nat} (hi : i ≤ cnO (opA t (p + q))) : kid t (p + q) i = p + kid (subT t p (szA t p)) q i := (sub_pl h.tm hq i hi).symm
theorem Ins.kid_lt {t : List Nd} {p : Nat} (h : Ins t p) {q : Nat} (hq : q < szA t p) {i : Nat} (hi : i < cnO (opA t (p + q))) : YtjafbfepdmgjnaaGreatDoor.kid (subT t p (szA t p)) q i < szA t p := by
  have := (kid_any h.sub (p := q) (i := i) (by rw [h.len]; exact hq) (by rw [h.op hq]; exact hi)).1
  rw [h.len] at this; exact this
theorem Ins.vl {t : List Nd} {p : Nat} (h : Ins t p) {k : Nat} (hk : k < szA t p) (hm : mkO (opA t (p + k)) = 1) (fx : Int → Option Rat) : vlA t fx (p + k) = vlA (subT t p (szA t p)) fx k := by
  have h1 := h.tm.bd
  rw [vl_U (num_at h.ok (by omega) hm).1, vl_U (num_at h.sub (n := k) (by rw [h.len]; exact hk) (by rw [h.op hk]; exact hm)).1, sub_U h.tm hk]
def shf (p : Nat) (r : List Td × List Flw × List Wat) : List Td × List Flw × List Wat := (r.1.map fun y => ⟨p + y.p, y.day, y.q⟩, r.2.1, r.2.2)
theorem stp_sub {t : List Nd} {p : Nat} (h : Ins t p) {E : Env} {tu : Int} {x : Td} (hq : x.p < szA t p) (hx : CtA (subT t p (szA t p)) x.p) : stp t E tu ⟨p + x.p, x.day, x.q⟩ = (stp (subT t p (szA t p)) E tu x).map (shf p) := by
  have eo := h.op hq
  have ea := h.a hq
  have eb := h.b hq
  have ek := fun i => h.kid hq (i := i)
  have hp2 : p + x.p < t.length := by have := h.tm.bd; omega
  have em : mkO (opA t (p + x.p)) = 2 := by rw [← eo]; exact hx.mc
  have ev : ∀ i, i < cnO (opA t (p + x.p)) → kdC (ixO (opA t (p + x.p))) i = 1 → ∀ fx, vlA t fx (kid t (p + x.p) i) = vlA (subT t p (szA t p)) fx (kid (subT t p (szA t p)) x.p i) := fun i hi hk fx => by
    have hkd := kid_any h.ok hp2 hi
    rw [ek i (Nat.le_of_lt hi)] at hkd ⊢
    exact h.vl (h.kid_lt hq hi) (hkd.2.1.trans hk) fx
  have ew : ∀ i, i < cnO (opA t (p + x.p)) → ∀ d, askW t E d (kid t (p + x.p) i) = askW (subT t p (szA t p)) E d (kid (subT t p (szA t p)) x.p i) := fun i hi d => by
    unfold askW
    rw [ek i (Nat.le_of_lt hi), sub_ky h.tm (h.kid_lt hq hi)]
  clear hx
  generalize subT t p (szA t p) = T at *
  by_cases c : opA t (p + x.p) = 10
  · rw [stp_one (x := ⟨p + x.p, x.day, x.q⟩) c, stp_one (x := x) (eo.trans c), ea]; simp [shf]
  by_cases c : opA t (p + x.p) = 11
  · rw [stp_give (x := ⟨p + x.p, x.day, x.q⟩) c, stp_give (x := x) (eo.trans c)]
    dsimp only
    rw [ek 0 (by rw [c]; decide)]; simp [shf]
  by_cases c : opA t (p + x.p) = 12
  · rw [stp_and (x := ⟨p + x.p, x.day, x.q⟩) c, stp_and (x := x) (eo.trans c)]
    dsimp only
    rw [ek 0 (by rw [c]; decide), ek 1 (by rw [c]; decide)]; simp [shf]
  by_cases c : opA t (p + x.p) = 13
  · rw [stp_scale (x := ⟨p + x.p, x.day, x.q⟩) c, stp_scale (x := x) (eo.trans c)]
    dsimp only
    rw [ev 0 (by rw [c]; decide) (by rw [c]; decide), ew 0 (by rw [c]; decide), ek 1 (by rw [c]; decide)]
    cases vlA T (E.fx x.day) (kid T x.p 0) with
    | none => simp [shf]
    | some v =>
      cases v with
      | none => simp [shf]
      | some v =>
        dsimp only
        by_cases f : fitsR (x.q * v) = true
        · rw [if_pos f, if_pos f]; simp [shf]
        · rw [if_neg f, if_neg f]; simp [shf]
  by_cases c : opA t (p + x.p) = 14
  · rw [stp_when (x := ⟨p + x.p, x.day, x.q⟩) c, stp_when (x := x) (eo.trans c)]
    dsimp only
    rw [ea, ek 0 (by rw [c]; decide)]
    by_cases f : x.day ≤ aA t (p + x.p)
    · rw [if_pos f, if_pos f]; simp [shf]
    · rw [if_neg f, if_neg f]; simp [shf]
  by_cases c : opA t (p + x.p) = 15
  · rw [stp_cond (x := ⟨p + x.p, x.day, x.q⟩) c, stp_cond (x := x) (eo.trans c)]
    dsimp only
    rw [ev 0 (by rw [c]; decide) (by rw [c]; decide), ev 1 (by rw [c]; decide) (by rw [c]; decide), ew 0 (by rw [c]; decide), ew 1 (by rw [c]; decide)]
    cases vlA T (E.fx x.day) (kid T x.p 0) with
    | none => simp [shf]
    | some v =>
      cases vlA T (E.fx x.day) (kid T x.p 1) with
      | none => simp [shf]
      | some u =>
        cases v with
        | none => simp [shf]
        | some v =>
          cases u with
          | none => simp [shf]
          | some u =>
            dsimp only
            by_cases f : v < u
            · rw [if_pos f, ek 2 (by rw [c]; decide)]; simp [shf]
            · rw [if_neg f, ek 3 (by rw [c]; decide)]; simp [shf]
  by_cases c : opA t (p + x.p) = 16
  · rw [stp_or (x := ⟨p + x.p, x.day, x.q⟩) c, stp_or (x := x) (eo.trans c)]
    dsimp only
    rw [ea, ek 0 (by rw [c]; decide), ek 1 (by rw [c]; decide)]
    by_cases f : E.ch (aA t (p + x.p)) x.day = 1
    · rw [if_pos f, if_pos f]; simp [shf]
    · rw [if_neg f, if_neg f]
      by_cases f : E.ch (aA t (p + x.p)) x.day = 2
      · rw [if_pos f, if_pos f]; simp [shf]
      · rw [if_neg f, if_neg f]; simp [shf]
  by_cases c : opA t (p + x.p) = 17
  · rw [stp_any (x := ⟨p + x.p, x.day, x.q⟩) c, stp_any (x := x) (eo.trans c)]
    dsimp only
    rw [ea, eb, ek 0 (by rw [c]; decide)]
    cases E.fs (aA t (p + x.p)) x.day (min (bA t (p + x.p)) tu) with
    | none => simp [shf]
    | some d => simp [shf]
  have hop := ct_op em
  rw [stp_zero (x := ⟨p + x.p, x.day, x.q⟩) (by dsimp only; omega), stp_zero (x := x) (by omega)]; simp [shf]
theorem dn_sub {t : List Nd} {p : Nat} (h : Ins t p) {E : Env} (hE : E.Ok) {tu : Int} (hto : tu ≤ 73048) : ∀ (n : Nat) (x : Td), x.p < szA t p → CtA (subT t p (szA t p)) x.p → szA t (p + x.p) ≤ n → dn t E tu ⟨p + x.p, x.day, x.q⟩ = dn (subT t p (szA t p)) E tu x
  | 0, x, hq, hx, hn => by have := (tm_nest h.tm hq).2.1.bd; omega
  | n + 1, x, hq, hx, hn => by
    have hc : CtA t (p + x.p) := ⟨by have := h.tm.bd; omega, by rw [← h.op hq]; exact hx.mc⟩
    by_cases hl : tu < x.day
    · rw [dn_late (x := ⟨p + x.p, x.day, x.q⟩) hl, dn_late (x := x) hl]
    · rw [dn_eq h.ok hE hto (x := ⟨p + x.p, x.day, x.q⟩) hc hl, dn_eq h.sub hE hto hx hl, stp_sub h hq hx]
      cases hs : stp (subT t p (szA t p)) E tu x with
      | none => rfl
      | some r =>
        obtain ⟨ts, fl, ws⟩ := r
        have hk := stp_kids h.sub hE hto hx hs
        have hz := (tm_nest h.tm hq).2.2.1
        have hb := (tm_nest h.tm hq).2.2.2
        show cat _ (cats ((ts.map fun y => (⟨p + y.p, y.day, y.q⟩ : Td)).map (dn t E tu))) = _
        rw [List.map_map]
        have e : ts.map (dn t E tu ∘ fun y => (⟨p + y.p, y.day, y.q⟩ : Td)) = ts.map (dn (subT t p (szA t p)) E tu) := List.map_congr_left fun y hy => by
          have h1 := szs_mem (t := subT t p (szA t p)) hy
          have h2 := hk.sz
          have h3 := (hk.ct y hy).lt
          rw [h.len] at h3
          have h4 := (tm_nest h.tm h3).2.2.1
          exact dn_sub h hE hto n y h3 (hk.ct y hy) (by omega)
        rw [e]; rfl
termination_by n => n
/-- A contract that stands within another one pays what it does. -/
theorem dn_in {t : List Nd} (h : (ofK t).2 = 0) {p : Nat} (hp : CtA t p) {E : Env} (hE : E.Ok) {tu : Int} (hto : tu ≤ 73048) (d : Int) (q : Rat) : dn t E tu ⟨p, d, q⟩ = dn (subT t p (szA t p)) E tu ⟨0, d, q⟩ := by
  have hi : Ins t p := ⟨h, hp⟩
  have := dn_sub hi hE hto (szA t (p + 0)) ⟨0, d, q⟩ (by have := ct_pos h hp; dsimp only; omega) ⟨by rw [hi.len]; exact ct_pos h hp, by rw [hi.op (ct_pos h hp), Nat.add_zero]; exact hp.mc⟩ (Nat.le_refl _)
  exact this

end Go.Proofs.YtjafbfepdmgjnaaGreatDoor

namespace Go.Proofs.YtjafbfepdmgjnaaGreatDoor
open Go.RowKit Go.Lib
set_option linter.unusedVariables false
set_option linter.unusedSimpArgs false

/-- What is given. -/
def ngF (f : Flw) : Flw := ⟨f.d, f.c, -f.n⟩
def ngO (o : Otc) : Otc := o.map fun r => (r.1.map ngF, r.2)
def ngT (y : Td) : Td := ⟨y.p, y.day, -y.q⟩
theorem rnd_neg (q : Rat) : rnd (-q) = -rnd q := by
  unfold rnd
  rw [Rat.neg_num, Rat.neg_den]
  exact md_neg _ _ _ (by have := q.den_pos; omega)
theorem fits_neg_iff (q : Rat) : (fitsR (-q) = true) = (fitsR q = true) := by
  refine propext ⟨fun h => ?_, fits_neg⟩
  have := fits_neg h
  rw [Rat.neg_neg] at this; exact this
theorem ngO_cat (x y : Otc) : ngO (cat x y) = cat (ngO x) (ngO y) := by
  match x, y with
  | none, _ => rfl
  | some (a, b), none => rfl
  | some (a, b), some (c, d) => simp [ngO, cat]
theorem ngO_cats {α : Type} {f g : α → Otc} : ∀ (ts : List α), (∀ y ∈ ts, g y = ngO (f y)) → cats (ts.map g) = ngO (cats (ts.map f))
  | [], _ => rfl
  | y :: ts, h => by
    rw [List.map_cons, List.map_cons, cats, cats, ngO_cat, h y (by simp), ngO_cats ts (fun z hz => h z (by simp [hz]))]
theorem stp_neg (t : List Nd) (E : Env) (tu : Int) (x : Td) : stp t E tu (ngT x) = (stp t E tu x).map fun r => (r.1.map ngT, r.2.1.map ngF, r.2.2) := by
  have ep : (ngT x).p = x.p := rfl
  have ed : (ngT x).day = x.day := rfl
  have eq : (ngT x).q = -x.q := rfl
  by_cases c : opA t x.p = 10
  · rw [stp_one (x := ngT x) c, stp_one c, ep, ed, eq, rnd_neg]
    by_cases f : rnd x.q = 0
    · rw [if_pos f, if_pos (by omega)]; simp [ngT, ngF]
    · rw [if_neg f, if_neg (by omega)]; simp [ngT, ngF]
  by_cases c : opA t x.p = 11
  · rw [stp_give (x := ngT x) c, stp_give c]; simp [ngT, ngF]
  by_cases c : opA t x.p = 12
  · rw [stp_and (x := ngT x) c, stp_and c]; simp [ngT, ngF]
  by_cases c : opA t x.p = 13
  · rw [stp_scale (x := ngT x) c, stp_scale c, ep, ed, eq]
    cases vlA t (E.fx x.day) (kid t x.p 0) with
    | none => simp [ngT, ngF]
    | some v =>
      cases v with
      | none => simp [ngT, ngF]
      | some v =>
        dsimp only
        rw [show -x.q * v = -(x.q * v) from Rat.neg_mul _ _]
        by_cases f : fitsR (x.q * v) = true
        · rw [if_pos f, if_pos (fits_neg f)]; simp [ngT, ngF]
        · rw [if_neg f, if_neg (by rw [fits_neg_iff]; exact f)]; simp [ngT, ngF]
  by_cases c : opA t x.p = 14
  · rw [stp_when (x := ngT x) c, stp_when c, ep, ed, eq]
    by_cases f : x.day ≤ aA t x.p
    · rw [if_pos f, if_pos f]; simp [ngT, ngF]
    · rw [if_neg f, if_neg f]; simp [ngT, ngF]
  by_cases c : opA t x.p = 15
  · rw [stp_cond (x := ngT x) c, stp_cond c, ep, ed, eq]
    cases vlA t (E.fx x.day) (kid t x.p 0) with
    | none => simp [ngT, ngF]
    | some v =>
      cases vlA t (E.fx x.day) (kid t x.p 1) with
      | none => simp [ngT, ngF]
      | some u =>
        cases v with
        | none => simp [ngT, ngF]
        | some v =>
          cases u with
          | none => simp [ngT, ngF]
          | some u => simp [ngT, ngF]
  by_cases c : opA t x.p = 16
  · rw [stp_or (x := ngT x) c, stp_or c, ep, ed, eq]
    by_cases f : E.ch (aA t x.p) x.day = 1
    · rw [if_pos f, if_pos f]; simp [ngT, ngF]
    · rw [if_neg f, if_neg f]
      by_cases f : E.ch (aA t x.p) x.day = 2
      · rw [if_pos f, if_pos f]; simp [ngT, ngF]
      · rw [if_neg f, if_neg f]; simp [ngT, ngF]
  by_cases c : opA t x.p = 17
  · rw [stp_any (x := ngT x) c, stp_any c, ep, ed, eq]
    cases E.fs (aA t x.p) x.day (min (bA t x.p) tu) with
    | none => simp [ngT, ngF]
    | some d => simp [ngT, ngF]
  rw [stp_zero (x := ngT x) (by rw [ep]; omega), stp_zero (by omega)]; simp [ngT, ngF]
theorem dn_neg {t : List Nd} (h : (ofK t).2 = 0) {E : Env} (hE : E.Ok) {tu : Int} (hto : tu ≤ 73048) {x : Td} (hx : CtA t x.p) : dn t E tu (ngT x) = ngO (dn t E tu x) := by
  refine dn_ind (P := fun x => dn t E tu (ngT x) = ngO (dn t E tu x)) ?_ (szA t x.p) x (Nat.le_refl _) hx
  clear hx x
  intro x hx ih
  by_cases hl : tu < x.day
  · rw [dn_late (x := ngT x) hl, dn_late hl]; rfl
  rw [dn_eq h hE hto (x := ngT x) hx hl, dn_eq h hE hto hx hl, stp_neg]
  cases hs : stp t E tu x with
  | none => rfl
  | some r =>
    obtain ⟨ts, fl, ws⟩ := r
    have hk := stp_kids h hE hto hx hs
    show cat (some (fl.map ngF, ws)) (cats ((ts.map ngT).map (dn t E tu))) = _
    rw [List.map_map, ngO_cats (f := dn t E tu) (g := dn t E tu ∘ ngT) ts (fun y hy => by
      have := szs_mem (t := t) hy
      have := hk.sz
      exact ih y (hk.ct y hy) (by omega))]
    show _ = ngO (cat (some (fl, ws)) (cats (ts.map (dn t E tu))))
    rw [ngO_cat]; rfl

end Go.Proofs.YtjafbfepdmgjnaaGreatDoor

namespace Go.Proofs.YtjafbfepdmgjnaaGreatDoor
open Go.RowKit Go.Lib Go.Shelf Go.Maps
set_option linter.unusedVariables false
set_option linter.unusedSimpArgs false

def gvN : Nd := ⟨11, 0, 0, 0, 0⟩
theorem gv_join {t : List Nd} (h : jnK gvN [t] = 0) : (ofK (gvN :: t)).2 = 0 ∧ szA (gvN :: t) 1 = t.length ∧ CtA (gvN :: t) 0 ∧ CtA (gvN :: t) 1 ∧ kid (gvN :: t) 0 0 = 1 := by
  have e : [t].flatten = t := by simp
  unfold jnK at h
  rw [e] at h
  by_cases h0 : (ofK (gvN :: t)).2 ≠ 0
  · rw [if_pos h0] at h; omega
  · have h0 : (ofK (gvN :: t)).2 = 0 := by omega
    rw [if_neg (by omega)] at h
    have hw := (ofK_zero h0).2.1
    by_cases hp : pcN [t] [t].length = plL (gvN :: t) 0 (cnO gvN.op)
    · obtain ⟨j1, j2⟩ := join_parts (n := gvN) (L := [t]) (by rw [e]; exact hw) (by rw [e]; exact hp)
      rw [e] at j2
      have j3 := (j2 0 (by simp)).2
      have k0 : CtA (gvN :: t) 0 := ⟨by simp, by show mkO 11 = 2; decide⟩
      have hk : kid (gvN :: t) 0 0 = 1 := rfl
      have k1 := kid_ct h0 (p := 0) (i := 0) k0.lt (by show 0 < cnO 11; decide) (by show kdC (ixO 11) 0 = 2; decide)
      rw [hk] at k1
      exact ⟨h0, j3, k0, k1, hk⟩
    · rw [if_neg hp] at h; cases h
theorem gv_in {t : List Nd} (h : jnK gvN [t] = 0) : (ofK t).2 = 0 ∧ CtA t 0 := by
  obtain ⟨h0, h1, h2, h3, h4⟩ := gv_join h
  have hs : subT (gvN :: t) 1 (szA (gvN :: t) 1) = t := by rw [h1]; exact up_sub gvN t
  have ho := (show Ins (gvN :: t) 1 from ⟨h0, h3⟩).sub
  rw [hs] at ho
  have hl := ct_pos h0 h3
  refine ⟨ho, ⟨by omega, ?_⟩⟩
  have := h3.mc
  rw [show (1 : Nat) = 1 + 0 from rfl, up_op] at this
  exact this
theorem gv_dn {t : List Nd} (h : jnK gvN [t] = 0) {E : Env} (hE : E.Ok) {tu : Int} (hto : tu ≤ 73048) (d : Int) (q : Rat) : dn (gvN :: t) E tu ⟨0, d, q⟩ = ngO (dn t E tu ⟨0, d, q⟩) := by
  obtain ⟨h0, h1, h2, h3, h4⟩ := gv_join h
  obtain ⟨g0, g1⟩ := gv_in h
  by_cases hl : tu < d
  · rw [dn_late (x := ⟨0, d, q⟩) hl, dn_late (x := ⟨0, d, q⟩) hl]; rfl
  rw [dn_eq h0 hE hto h2 hl, stp_give (by rfl)]
  show cat (some ([], [])) (cats [dn (gvN :: t) E tu ⟨kid (gvN :: t) 0 0, d, -q⟩]) = _
  rw [h4, dn_in h0 h3 hE hto d (-q), h1, up_sub]
  have e := dn_neg g0 hE hto (x := ⟨0, d, q⟩) g1
  have e' : ngT ⟨0, d, q⟩ = ⟨0, d, -q⟩ := rfl
  rw [e'] at e
  rw [e]
  show cat nul (cat (ngO (dn t E tu ⟨0, d, q⟩)) nul) = _
  rw [cat_nul, nul_cat]
theorem rnd_lim {q : Rat} (h : fitsR q = true) : -9223372036854775807 ≤ rnd q ∧ rnd q ≤ 9223372036854775807 := by
  have hl := okQ h
  have hf : -9223372036854775807 ≤ q.num ∧ q.num ≤ 9223372036854775807 := by unfold fitsR at h; have := of_decide_eq_true h; exact ⟨this.1, this.2.1⟩
  have hc : (0 : Int) < ((q.den : Nat) : Int) := by have := q.den_pos; omega
  unfold rnd
  rw [md_one _ _ hc]
  have ha : 0 ≤ absI q.num := by unfold absI; omega
  have n1 := near_le (absI q.num) _ hc ha
  have n0 := near_nonneg (absI q.num) _ hc ha
  have hab : absI q.num ≤ 9223372036854775807 := by unfold absI; omega
  generalize nearI (absI q.num) ((q.den : Nat) : Int) = m at *
  cases decide (q.num < 0)
  · show -9223372036854775807 ≤ m ∧ m ≤ 9223372036854775807; omega
  · show -9223372036854775807 ≤ -m ∧ -m ≤ 9223372036854775807; omega
theorem stp_lim {t : List Nd} {E : Env} {tu : Int} {x : Td} {ts : List Td} {fl : List Flw} {ws : List Wat} (hs : stp t E tu x = some (ts, fl, ws)) (hq : fitsR x.q = true) : ∀ f ∈ fl, -9223372036854775807 ≤ f.n ∧ f.n ≤ 9223372036854775807 := by
  have key : ∀ {a b c}, (some (a, b, c) : Option (List Td × List Flw × List Wat)) = some (ts, fl, ws) → b = [] → ∀ f ∈ fl, -9223372036854775807 ≤ f.n ∧ f.n ≤ 9223372036854775807 := fun e hb => by
    injection e with e; injection e with _ e; injection e with e _; subst e; rw [hb]; exact fun f hf => by cases hf
  by_cases c : opA t x.p = 10
  · rw [stp_one c] at hs
    injection hs with e; injection e with _ e; injection e with e _
    by_cases f : rnd x.q = 0
    · rw [if_pos f] at e; rw [← e]; exact fun f hf => by cases hf
    · rw [if_neg f] at e; rw [← e]; intro g hg; rw [List.mem_singleton.1 hg]; exact rnd_lim hq
  by_cases c : opA t x.p = 11
  · rw [stp_give c] at hs; exact key hs rfl
  by_cases c : opA t x.p = 12
  · rw [stp_and c] at hs; exact key hs rfl
  by_cases c : opA t x.p = 13
  · rw [stp_scale c] at hs
    cases hv : vlA t (E.fx x.day) (kid t x.p 0) with
    | none => rw [hv] at hs; cases hs
    | some v =>
      rw [hv] at hs
      cases v with
      | none => exact key hs rfl
      | some v =>
        dsimp only at hs
        by_cases f : fitsR (x.q * v) = true
        · rw [if_pos f] at hs; exact key hs rfl
        · rw [if_neg f] at hs; cases hs
  by_cases c : opA t x.p = 14
  · rw [stp_when c] at hs; exact key hs rfl
  by_cases c : opA t x.p = 15
  · rw [stp_cond c] at hs
    cases hv : vlA t (E.fx x.day) (kid t x.p 0) with
    | none => rw [hv] at hs; cases hs
    | some v =>
      cases hu : vlA t (E.fx x.day) (kid t x.p 1) with
      | none => rw [hv, hu] at hs; cases hs
      | some u =>
        rw [hv, hu] at hs
        cases v with
        | none =>
          cases u with
          | none => exact key hs rfl
          | some u => exact key hs rfl
        | some v =>
          cases u with
          | none => exact key hs rfl
          | some u => exact key hs rfl
  by_cases c : opA t x.p = 16
  · rw [stp_or c] at hs
    by_cases f : E.ch (aA t x.p) x.day = 1
    · rw [if_pos f] at hs; exact key hs rfl
    · rw [if_neg f] at hs
      by_cases f : E.ch (aA t x.p) x.day = 2
      · rw [if_pos f] at hs; exact key hs rfl
      · rw [if_neg f] at hs; exact key hs rfl
  by_cases c : opA t x.p = 17
  · rw [stp_any c] at hs
    cases hv : E.fs (aA t x.p) x.day (min (bA t x.p) tu) with
    | none => rw [hv] at hs; exact key hs rfl
    | some d => rw [hv] at hs; exact key hs rfl
  rw [stp_zero (by omega)] at hs
  exact key hs rfl
theorem dn_lim {t : List Nd} (h : (ofK t).2 = 0) {E : Env} (hE : E.Ok) {tu : Int} (hto : tu ≤ 73048) {x : Td} (hx : CtA t x.p) (hq : fitsR x.q = true) {fl : List Flw} {ws : List Wat} (hd : dn t E tu x = some (fl, ws)) : ∀ f ∈ fl, -9223372036854775807 ≤ f.n ∧ f.n ≤ 9223372036854775807 := by
  refine dn_ind (P := fun x => fitsR x.q = true → ∀ fl ws, dn t E tu x = some (fl, ws) → ∀ f ∈ fl, -9223372036854775807 ≤ f.n ∧ f.n ≤ 9223372036854775807) ?_ (szA t x.p) x (Nat.le_refl _) hx hq fl ws hd
  clear hd hq hx fl ws x
  intro x hx ih hq fl ws hd
  by_cases hl : tu < x.day
  · rw [dn_late hl] at hd
    injection hd with hd; injection hd with hd _
    subst hd
    intro f hf; cases hf
  · obtain ⟨ts, fl0, ws0, fl1, ws1, hs, hc, rfl, rfl⟩ := dn_step h hE hto hx hl hd
    have hk := stp_kids h hE hto hx hs
    have h1 := cats_all (f := dn t E tu) (Q := fun fl _ => ∀ f ∈ fl, -9223372036854775807 ≤ f.n ∧ f.n ≤ 9223372036854775807) (fun f hf => by cases hf) (fun a b c d ha hb f hf => (List.mem_append.1 hf).elim (ha f) (hb f)) ts (fun y hy a b e => by
      have := szs_mem (t := t) hy
      have := hk.sz
      exact ih y (hk.ct y hy) (by omega) (hk.fit hq y hy) a b e) fl1 ws1 hc
    intro f hf
    rcases List.mem_append.1 hf with hf | hf
    · exact stp_lim hs hq f hf
    · exact h1 f hf
theorem ofK_mk {t : List Nd} (h : (ofK t).2 = 0) : ofK t = (mkO (opA t 0), 0) := by
  obtain ⟨h1, h2, h3, h4, h5⟩ := ofK_zero h
  exact ofK_yes h1 h2 h3 h4 h5
theorem chk_of_ct {t : List Nd} (h : (ofK t).2 = 0) (hc : CtA t 0) : chkK t = 0 := by
  unfold chkK
  rw [ofK_mk h, hc.mc]
  rfl
theorem gv_er {t : List Nd} (h : jnK gvN [t] = 0) {lf lc : List Fct} (hof : OkL lf) (hoc : ∀ x ∈ lc, x.p = 1 ∨ x.p = 2) (fr tu : Int) :
    erD (gvN :: t) lf lc fr tu = erD t lf lc fr tu ∧ (erD t lf lc fr tu = 0 → (reD (gvN :: t) lf lc fr tu).1 = (reD t lf lc fr tu).1.map ngF ∧ (reD (gvN :: t) lf lc fr tu).2 = (reD t lf lc fr tu).2 ∧ ∀ f ∈ (reD t lf lc fr tu).1, -9223372036854775807 ≤ f.n ∧ f.n ≤ 9223372036854775807) := by
  obtain ⟨h0, _, h2, _, _⟩ := gv_join h
  obtain ⟨g0, g1⟩ := gv_in h
  have c1 := chk_of_ct h0 h2
  have c2 := chk_of_ct g0 g1
  by_cases hb : badD fr tu
  · have e1 : erD (gvN :: t) lf lc fr tu = 18 := by unfold erD; rw [if_neg (by omega), if_pos hb]
    have e2 : erD t lf lc fr tu = 18 := by unfold erD; rw [if_neg (by omega), if_pos hb]
    rw [e1, e2]
    exact ⟨rfl, fun h => by cases h⟩
  · have htu : tu ≤ 73048 := by unfold badD at hb; omega
    have e := gv_dn h (env_okL hof hoc) htu fr 1
    cases hd : dn t (envL lf lc) tu ⟨0, fr, 1⟩ with
    | none =>
      rw [hd] at e
      have e : dn (gvN :: t) (envL lf lc) tu ⟨0, fr, 1⟩ = none := e
      have e1 : erD (gvN :: t) lf lc fr tu = 11 := by unfold erD; rw [if_neg (by omega), if_neg hb, if_pos e]
      have e2 : erD t lf lc fr tu = 11 := by unfold erD; rw [if_neg (by omega), if_neg hb, if_pos hd]
      rw [e1, e2]
      exact ⟨rfl, fun h => by cases h⟩
    | some r =>
      rw [hd] at e
      have e : dn (gvN :: t) (envL lf lc) tu ⟨0, fr, 1⟩ = some (r.1.map ngF, r.2) := e
      have e1 : erD (gvN :: t) lf lc fr tu = 0 := by unfold erD; rw [if_neg (by omega), if_neg hb, if_neg (by rw [e]; intro h; cases h)]
      have e2 : erD t lf lc fr tu = 0 := by unfold erD; rw [if_neg (by omega), if_neg hb, if_neg (by rw [hd]; intro h; cases h)]
      have r1 : reD (gvN :: t) lf lc fr tu = (r.1.map ngF, r.2) := by unfold reD; rw [e]; rfl
      have r2 : reD t lf lc fr tu = r := by unfold reD; rw [hd]; rfl
      rw [e1, e2, r1, r2]
      exact ⟨rfl, fun _ => ⟨rfl, rfl, dn_lim g0 (env_okL hof hoc) htu (x := ⟨0, fr, 1⟩) g1 one_fit.1 (fl := r.1) (ws := r.2) hd⟩⟩

end Go.Proofs.YtjafbfepdmgjnaaGreatDoor

namespace Go.Proofs.YtjafbfepdmgjnaaGreatDoor
open Go.RowKit Go.Lib Go.Shelf Go.Maps
set_option linter.unusedVariables false
set_option linter.unusedSimpArgs false

theorem pos_step : ∀ (l : List Flw) (x : Flw) (k : Nat), k ≤ posF l x → k < l.length → (bfF x (l.getD k default) → posF l x = k) ∧ (¬ bfF x (l.getD k default) → k + 1 ≤ posF l x)
  | [], x, k, _, h => absurd h (Nat.not_lt_zero _)
  | a :: l, x, k, h, hl => by
    by_cases c : bfF x a
    · have e : posF (a :: l) x = 0 := by
        unfold posF
        rw [List.takeWhile_cons_of_neg (by simp [c])]; rfl
      have : k = 0 := by omega
      subst this
      exact ⟨fun _ => e, fun n => absurd c n⟩
    · have e : posF (a :: l) x = posF l x + 1 := by
        unfold posF
        rw [List.takeWhile_cons_of_pos (by simp [c])]; rfl
      cases k with
      | zero => exact ⟨fun y => absurd y c, fun _ => by omega⟩
      | succ k =>
        have ih := pos_step l x k (by omega) (by simpa using hl)
        rw [e]
        exact ⟨fun y => by rw [ih.1 y], fun y => by have := ih.2 y; omega⟩
theorem pos_len (l : List Flw) (x : Flw) : posF l x ≤ l.length := (List.takeWhile_sublist _).length_le
theorem RowX.head {α : Type} [Inhabited α] {E : α → List Value} {n : Nat} {w : World} {b o cap : Nat} {m : List α} (hc : m.length ≤ cap) (hm : cap ≤ 9223372036854775807) (h : ∀ j, j < m.length → ∀ i c, i < n → (E (m.getD j default))[i]? = some c → w.cell? ⟨b, o + j * n + i, none⟩ = some c) {k : Nat} (hk : k ≤ m.length) :
    RowX E n w (.slice (some ⟨b, o, none⟩) k cap) (m.take k) := by
  have hl : (m.take k).length = k := by rw [List.length_take]; omega
  by_cases h0 : k = 0
  · subst h0; exact .inl ⟨by simp, _, _, rfl⟩
  · refine .inr ⟨by omega, b, o, cap, by rw [hl], by omega, hm, fun j hj i c hi he => h j (by omega) i c hi ?_⟩
    rw [← he, List.getD_eq_getElem?_getD, List.getD_eq_getElem?_getD, List.getElem?_take_of_lt (by omega)]
theorem RowX.tail {α : Type} [Inhabited α] {E : α → List Value} {n : Nat} {w : World} {b o cap : Nat} {m : List α} (hc : m.length ≤ cap) (hm : cap ≤ 9223372036854775807) (h : ∀ j, j < m.length → ∀ i c, i < n → (E (m.getD j default))[i]? = some c → w.cell? ⟨b, o + j * n + i, none⟩ = some c) {k : Nat} (hk : k ≤ m.length) :
    RowX E n w (.slice (some ⟨b, o + k * n, none⟩) (m.length - k) (cap - k)) (m.drop k) := by
  have hl : (m.drop k).length = m.length - k := List.length_drop ..
  by_cases h0 : m.length - k = 0
  · rw [h0]; exact .inl ⟨List.length_eq_zero_iff.1 (by omega), _, _, rfl⟩
  · refine .inr ⟨by omega, b, o + k * n, cap - k, by rw [hl], by omega, by omega, fun j hj i c hi he => ?_⟩
    have := h (k + j) (by omega) i c hi (by rw [← he, List.getD_eq_getElem?_getD, List.getD_eq_getElem?_getD, List.getElem?_drop])
    rw [Nat.add_mul, ← Nat.add_assoc] at this
    exact this
set_option maxRecDepth 100000 in
theorem ahead_any (a x : Flw) (w : World) : Calls Tryz.prog 54 #[.agg #[.int .i64 a.d, .int .i64 a.c, .int .i64 a.n], .agg #[.int .i64 x.d, .int .i64 x.c, .int .i64 x.n]] w fun e w' => e = .returned (.bool (!decide (bfF x a))) ∧ Below w.heap.size w w' := by
  obtain ⟨ad, ac, an⟩ := a
  obtain ⟨xd, xc, xn⟩ := x
  dsimp only
  have HB := Lib.hid (onF (newF w (.cells #[.int .i64 ad, .int .i64 ac, .int .i64 an] 50)) (newF _ (.cells #[.int .i64 xd, .int .i64 xc, .int .i64 xn] 50)))
  have ka : ∀ k v, (#[.int .i64 ad, .int .i64 ac, .int .i64 an] : Array Value)[k]? = some v → ((w.alloc (.cells #[.int .i64 ad, .int .i64 ac, .int .i64 an] 50)).alloc (.cells #[.int .i64 xd, .int .i64 xc, .int .i64 xn] 50)).cell? ⟨w.heap.size, k, none⟩ = some v := fun k v hv => keepF (newF _ _) (by rw [World.cell?_alloc_at _ _ _ _ rfl]; exact hv)
  have kx : ∀ k v, (#[.int .i64 xd, .int .i64 xc, .int .i64 xn] : Array Value)[k]? = some v → ((w.alloc (.cells #[.int .i64 ad, .int .i64 ac, .int .i64 an] 50)).alloc (.cells #[.int .i64 xd, .int .i64 xc, .int .i64 xn] 50)).cell? ⟨w.heap.size + 1, k, none⟩ = some v := fun k v hv => by rw [World.cell?_alloc_at _ _ _ _ (by simp)]; exact hv
  have a0 := ka 0 _ rfl
  have a1 := ka 1 _ rfl
  have a2 := ka 2 _ rfl
  have x0 := kx 0 _ rfl
  have x1 := kx 1 _ rfl
  have x2 := kx 2 _ rfl
  clear ka kx
  obtain ⟨r, hr⟩ : ∃ r, r = (!decide (bfF ⟨xd, xc, xn⟩ ⟨ad, ac, an⟩)) := ⟨_, rfl⟩
  rw [← hr]
  by_cases h1 : ad = xd
  · by_cases h2 : ac = xc
    · have e : r = decide (an ≤ xn) := by
        rw [hr, ← decide_not]
        apply decide_eq_decide.2
        unfold bfF; dsimp only; omega
      clear hr
      subst h1 h2
      by_cases h3 : an ≤ xn
      · rw [decide_eq_true h3] at e
        subst e
        go_enter Tryz.func54, Tryz.ntmps54
        go_wp2_with fail
        go_ret
        exact ⟨rfl, HB.out⟩
      · rw [decide_eq_false h3] at e
        subst e
        go_enter Tryz.func54, Tryz.ntmps54
        go_wp2_with fail
        go_ret
        exact ⟨rfl, HB.out⟩
    · have e : r = decide (ac < xc) := by
        rw [hr, ← decide_not]
        apply decide_eq_decide.2
        unfold bfF; dsimp only; omega
      have h2' : (ac != xc) = true := bne_iff_ne.2 h2
      have h2'' : (ac == xc) = false := beq_false_of_ne h2
      clear hr
      subst h1
      by_cases h3 : ac < xc
      · rw [decide_eq_true h3] at e
        subst e
        go_enter Tryz.func54, Tryz.ntmps54
        go_wp2_with fail
        go_ret
        exact ⟨rfl, HB.out⟩
      · rw [decide_eq_false h3] at e
        subst e
        go_enter Tryz.func54, Tryz.ntmps54
        go_wp2_with fail
        go_ret
        exact ⟨rfl, HB.out⟩
  · have e : r = decide (ad < xd) := by
      rw [hr, ← decide_not]
      apply decide_eq_decide.2
      unfold bfF; dsimp only; omega
    have h1' : (ad != xd) = true := bne_iff_ne.2 h1
    have h1'' : (ad == xd) = false := beq_false_of_ne h1
    clear hr
    by_cases h3 : ad < xd
    · rw [decide_eq_true h3] at e
      subst e
      go_enter Tryz.func54, Tryz.ntmps54
      go_wp2_with fail
      go_ret
      exact ⟨rfl, HB.out⟩
    · rw [decide_eq_false h3] at e
      subst e
      go_enter Tryz.func54, Tryz.ntmps54
      go_wp2_with fail
      go_ret
      exact ⟨rfl, HB.out⟩

set_option maxRecDepth 100000 in
set_option maxHeartbeats 4000000 in
theorem put9_any (w : World) (l : List Flw) (hl : l.length ≤ 1000) (v : Value) (h : RowX flL 3 w v l) (x : Flw) :
    Calls Tryz.prog 20 #[v, .agg #[.int .i64 x.d, .int .i64 x.c, .int .i64 x.n]] w fun e w' => ∃ v', e = .returned v' ∧ OwnX flL 3 50 w' w.heap.size v' (putF l x) ∧ Below w.heap.size w w' := by
  obtain ⟨va, vc, rfl⟩ := h.slice
  have hb0 := newF w (.cells #[.int .i64 x.d, .int .i64 x.c, .int .i64 x.n] 50)
  have kx : ∀ k v, (#[.int .i64 x.d, .int .i64 x.c, .int .i64 x.n] : Array Value)[k]? = some v → (w.alloc (.cells #[.int .i64 x.d, .int .i64 x.c, .int .i64 x.n] 50)).cell? ⟨w.heap.size, k, none⟩ = some v := fun k v hv => by rw [World.cell?_alloc_at _ _ _ _ rfl]; exact hv
  have HK := Lib.hid (And.intro (kx 0 _ rfl) (And.intro (kx 1 _ rfl) (kx 2 _ rfl)))
  have HB0 := Lib.hid hb0
  have HS := Lib.hid (h.keep hb0)
  have HAh := Lib.hid (fun (a : Flw) (w' : World) => ahead_any a x w')
  have HPs := Lib.hid (pos_step l x)
  have HPl := Lib.hid (pos_len l x)
  have HPu : Hid (putF l x = l.take (posF l x) ++ x :: l.drop (posF l x)) := Lib.hid rfl
  have HLx : Hid (flL x = [.int .i64 x.d, .int .i64 x.c, .int .i64 x.n]) := Lib.hid rfl
  have HLe := Lib.hid hl
  clear hb0 kx h
  go_enter Tryz.func20, Tryz.ntmps20
  go_wp2_with fail
  generalize w.alloc (.cells #[.int .i64 x.d, .int .i64 x.c, .int .i64 x.n] 50) = w0 at *
  go_loopw [5] (fun vi wx => ∃ k : Nat, k ≤ l.length ∧ vi = .int .i64 (k : Nat) ∧ k ≤ posF l x ∧ Below w0.heap.size w0 wx) (fun vi _ => l.length - (RowKit.intOf vi).toNat)
  case atStart => exact ⟨0, Nat.zero_le _, rfl, Nat.zero_le _, Below.refl _ _⟩
  case round =>
    obtain ⟨k, hk, rfl, hp, hb⟩ := hrel
    have HB := Lib.hid hb
    have HP := Lib.hid hp
    have x0 := keepF hb HK.out.1
    have x1 := keepF hb HK.out.2.1
    have x2 := keepF hb HK.out.2.2
    by_cases hlt : k < l.length
    · have p0 : (0 : Int) ≤ (k : Int) := by omega
      have p1 : (k : Int) < (l.length : Int) := by omega
      have hd1 : decide ((k : Int) < (l.length : Int)) = true := decide_eq_true p1
      obtain ⟨g, o, cap, hv, hc1, hc2, hT⟩ : ∃ g o cap, Value.slice va l.length vc = .slice (some ⟨g, o, none⟩) l.length cap ∧ l.length ≤ cap ∧ cap ≤ 9223372036854775807 ∧ ∀ j, j < l.length → ∀ i c, i < 3 → (flL (l.getD j default))[i]? = some c → w0.cell? ⟨g, o + j * 3 + i, none⟩ = some c := by
        rcases HS.out with ⟨e, _⟩ | ⟨_, g, o, cap, h1, h2, h3, h4⟩
        · rw [e] at hlt; exact absurd hlt (Nat.not_lt_zero _)
        · exact ⟨g, o, cap, h1, h2, h3, h4⟩
      injection hv with hv1 _ hv3
      subst hv1 hv3
      have k0 : wr.cell? ⟨g, o + k * 3, none⟩ = some (.int .i64 (l.getD k default).d) := keepF hb (hT k hlt 0 _ (by omega) rfl)
      have k1 : wr.cell? ⟨g, o + k * 3 + 1, none⟩ = some (.int .i64 (l.getD k default).c) := keepF hb (hT k hlt 1 _ (by omega) rfl)
      have k2 : wr.cell? ⟨g, o + k * 3 + 2, none⟩ = some (.int .i64 (l.getD k default).n) := keepF hb (hT k hlt 2 _ (by omega) rfl)
      have HPk := Lib.hid (HPs.out k hp hlt)
      have HLt := Lib.hid hlt
      have hkl : k ≤ l.length := by omega
      have HRw := Lib.hid (fun (wx : World) (hb : Below w0.heap.size w0 wx) => And.intro (RowX.head (E := flL) (n := 3) hc1 hc2 (fun j hj i c hi he => keepF hb (hT j hj i c hi he)) hkl) (RowX.tail (E := flL) (n := 3) hc1 hc2 (fun j hj i c hi he => keepF hb (hT j hj i c hi he)) hkl))
      have HA := Lib.hid (HAh.out (l.getD k default))
      generalize l.getD k default = y at *
      have HBd : Hid (Below w0.heap.size w0 wr.drew) := Lib.hid (Below.drew hb)
      have HBy := Lib.hid (HA.out wr.drew)
      obtain ⟨r, hr⟩ : ∃ r, r = (!decide (bfF x y)) := ⟨_, rfl⟩
      rw [← hr] at HBy
      have HR := Lib.hid hr
      clear hlt hT hb hp hr
      have k0 : wr.drew.cell? ⟨g, o + k * 3, none⟩ = some (.int .i64 y.d) := k0
      have k1 : wr.drew.cell? ⟨g, o + k * 3 + 1, none⟩ = some (.int .i64 y.c) := k1
      have k2 : wr.drew.cell? ⟨g, o + k * 3 + 2, none⟩ = some (.int .i64 y.n) := k2
      have x0 : wr.drew.cell? ⟨w.heap.size, 0, none⟩ = some (.int .i64 x.d) := x0
      have x1 : wr.drew.cell? ⟨w.heap.size, 1, none⟩ = some (.int .i64 x.c) := x1
      have x2 : wr.drew.cell? ⟨w.heap.size, 2, none⟩ = some (.int .i64 x.n) := x2
      cases r with
      | true =>
        go_wp2_with fail
        go_region_held3 (fun w' => w'.cell? ⟨g, o + k * 3, none⟩ = some (.int .i64 y.d) ∧ w'.cell? ⟨g, o + k * 3 + 1, none⟩ = some (.int .i64 y.c) ∧ w'.cell? ⟨g, o + k * 3 + 2, none⟩ = some (.int .i64 y.n) ∧ w'.cell? ⟨w.heap.size, 0, none⟩ = some (.int .i64 x.d) ∧ w'.cell? ⟨w.heap.size, 1, none⟩ = some (.int .i64 x.c) ∧ w'.cell? ⟨w.heap.size, 2, none⟩ = some (.int .i64 x.n))
          (first | (with_reducible exact ⟨k0, k1, k2, x0, x1, x2⟩))
          ((go_at_call 54; refine (HBy.out).mono ?_; rintro e w4 ⟨rfl, hb4⟩; have HB4 := Lib.hid (HBd.out.trans (hb4.mono HBd.out.size)); have k0 := keepF hb4 k0; have k1 := keepF hb4 k1; have k2 := keepF hb4 k2; have x0 := keepF hb4 x0; have x1 := keepF hb4 x1; have x2 := keepF hb4 x2; clear hb4))
        go_wp2_with fail
        go_roundw
        case rel => exact ⟨k + 1, HLt.out, by go_num, HPk.out.2 (by have := HR.out; simpa using this.symm), HB4.out⟩
        case measure => have := HLt.out; simp [RowKit.intOf]; omega
      | false =>
        have HEk : Hid (posF l x = k) := Lib.hid (HPk.out.1 (by have := HR.out; simpa using this.symm))
        go_wp2_with fail
        go_region_held3 (fun w' => w'.cell? ⟨g, o + k * 3, none⟩ = some (.int .i64 y.d) ∧ w'.cell? ⟨g, o + k * 3 + 1, none⟩ = some (.int .i64 y.c) ∧ w'.cell? ⟨g, o + k * 3 + 2, none⟩ = some (.int .i64 y.n) ∧ w'.cell? ⟨w.heap.size, 0, none⟩ = some (.int .i64 x.d) ∧ w'.cell? ⟨w.heap.size, 1, none⟩ = some (.int .i64 x.c) ∧ w'.cell? ⟨w.heap.size, 2, none⟩ = some (.int .i64 x.n))
          (first | (with_reducible exact ⟨k0, k1, k2, x0, x1, x2⟩))
          ((go_at_call 54; refine (HBy.out).mono ?_; rintro e w4 ⟨rfl, hb4⟩; have HB4 := Lib.hid (HBd.out.trans (hb4.mono HBd.out.size)); have k0 := keepF hb4 k0; have k1 := keepF hb4 k1; have k2 := keepF hb4 k2; have x0 := keepF hb4 x0; have x1 := keepF hb4 x1; have x2 := keepF hb4 x2; clear hb4))
        have HH := Lib.hid (HRw.out w4 HB4.out)
        go_wp2_with (at_builtin; first | (refine wpList_append_x (E := flL) (k := 3) (fun _ => rfl) (by decide) flL_one Tryz.underlying30 infoFl rfl (by decide) rfl _ _ rfl w0.heap.size _ [] rfl (OwnX.nil _ _ _ _ _) _ (l.take k) rfl HH.out.1 (by have := HLe.out; simp <;> omega) HB4.out.size ?_; intro v5 w5 ho5 hg5 hat5; rw [List.nil_append] at ho5; have HO5 := Lib.hid ho5; have HB5 : Hid (Below w0.heap.size w0 w5) := Lib.hid (Below.grown HB4.out hg5 HB4.out.size (fun k hk => by cases hk)); have x0 := keepF HB5.out HK.out.1; have x1 := keepF HB5.out HK.out.2.1; have x2 := keepF HB5.out HK.out.2.2; obtain ⟨sb, sn, sd, hsn, rfl⟩ : ∃ a n c, n = (l.take k).length ∧ v5 = Value.slice a n c := (by obtain ⟨a, c, h⟩ := ho5.slice; exact ⟨a, _, c, rfl, h⟩); clear hsn; clear ho5 hg5 hat5) | (refine wpList_append_x (E := flL) (k := 3) (fun _ => rfl) (by decide) flL_one Tryz.underlying30 infoFl rfl (by decide) rfl _ _ rfl w0.heap.size _ (l.take k) rfl (HO5.out.grown (newF w5 _)) _ [x] rfl (rowx_new (E := flL) (k := 3) (fun _ => rfl) w5 x #[.int .i64 x.d, .int .i64 x.c, .int .i64 x.n] (by rfl) 50 _ rfl) (by have := HLe.out; simp <;> omega) (Nat.le_trans HB5.out.size (by simp)) ?_; intro v6 w6 ho6 hg6 hat6; have HO6 := Lib.hid ho6; have HB6 : Hid (Below w0.heap.size w0 w6) := Lib.hid (Below.grown (Below.alloc HB5.out HB5.out.size _) hg6 (Nat.le_trans HB5.out.size (by simp)) (fun k hk => (HO5.out.lt k hk).1)); have HH6 := Lib.hid (HRw.out w6 HB6.out); obtain ⟨tb, tn, td, htn, rfl⟩ : ∃ a n c, n = (l.take k ++ [x]).length ∧ v6 = Value.slice a n c := (by obtain ⟨a, c, h⟩ := ho6.slice; exact ⟨a, _, c, rfl, h⟩); clear htn; clear ho6 hg6 hat6) | (refine wpList_append_x (E := flL) (k := 3) (fun _ => rfl) (by decide) flL_one Tryz.underlying30 infoFl rfl (by decide) rfl _ _ rfl w0.heap.size _ (l.take k ++ [x]) rfl HO6.out _ (l.drop k) rfl HH6.out.2 (by have := HLe.out; simp <;> omega) HB6.out.size ?_; intro v7 w7 ho7 hg7 hat7; have HO7 := Lib.hid ho7; have HB7 : Hid (Below w0.heap.size w0 w7) := Lib.hid (Below.grown HB6.out hg7 HB6.out.size (fun k hk => (HO6.out.lt k hk).1)); clear ho7 hg7 hat7))
        go_ret
        exact ⟨_, rfl, by rw [HPu.out, HEk.out]; have := HO7.out.base HB0.out.size; rw [List.append_assoc] at this; exact this, onF HB0.out HB7.out⟩
    · have hke : k = l.length := by omega
      subst hke
      have p1 : ¬ (l.length : Int) < (l.length : Int) := by omega
      have hd1 : decide ((l.length : Int) < (l.length : Int)) = false := decide_eq_false p1
      have HEk : Hid (posF l x = l.length) := Lib.hid (Nat.le_antisymm HPl.out hp)
      have HBn := Lib.hid (fun q => hb.trans ((below_drewE wr q).mono hb.size))
      rcases HS.out with ⟨hnil, a, c, hv⟩ | ⟨h0, g, o, cap, hv, hc1, hc2, hT⟩
      · subst hnil
        injection hv with hv1 _ hv3
        subst hv1 hv3
        have HRw : Hid (∀ wx, Below w0.heap.size w0 wx → RowX flL 3 wx (.slice va 0 vc) (([] : List Flw).take 0) ∧ RowX flL 3 wx (.slice va 0 vc) (([] : List Flw).drop 0)) := Lib.hid (fun wx _ => ⟨.inl ⟨rfl, _, _, rfl⟩, .inl ⟨rfl, _, _, rfl⟩⟩)
        have HEk : Hid (posF ([] : List Flw) x = 0) := HEk
        clear hb hp hlt hk x0 x1 x2
        simp only [List.length_nil] at *
        go_wp2_with fail
        go_quiet (fail)
        have HB4 : Hid (Below w0.heap.size w0 (wr.drewN nq)) := Lib.hid (HBn.out nq)
        generalize wr.drewN nq = w4 at *
        go_wp2_with (at_builtin; first | (refine wpList_append_x (E := flL) (k := 3) (fun _ => rfl) (by decide) flL_one Tryz.underlying30 infoFl rfl (by decide) rfl _ _ rfl w0.heap.size _ [] rfl (OwnX.nil _ _ _ _ _) _ ([] : List Flw) rfl (.inl ⟨rfl, _, _, rfl⟩) (by have := HLe.out; simp <;> omega) HB4.out.size ?_; intro v5 w5 ho5 hg5 hat5; rw [List.nil_append] at ho5; have HO5 := Lib.hid ho5; have HB5 : Hid (Below w0.heap.size w0 w5) := Lib.hid (Below.grown HB4.out hg5 HB4.out.size (fun k hk => by cases hk)); have x0 := keepF HB5.out HK.out.1; have x1 := keepF HB5.out HK.out.2.1; have x2 := keepF HB5.out HK.out.2.2; obtain ⟨sb, sn, sd, hsn, rfl⟩ : ∃ a n c, n = (([] : List Flw)).length ∧ v5 = Value.slice a n c := (by obtain ⟨a, c, h⟩ := ho5.slice; exact ⟨a, _, c, rfl, h⟩); clear hsn; clear ho5 hg5 hat5) | (refine wpList_append_x (E := flL) (k := 3) (fun _ => rfl) (by decide) flL_one Tryz.underlying30 infoFl rfl (by decide) rfl _ _ rfl w0.heap.size _ (([] : List Flw)) rfl (HO5.out.grown (newF w5 _)) _ [x] rfl (rowx_new (E := flL) (k := 3) (fun _ => rfl) w5 x #[.int .i64 x.d, .int .i64 x.c, .int .i64 x.n] (by rfl) 50 _ rfl) (by have := HLe.out; simp <;> omega) (Nat.le_trans HB5.out.size (by simp)) ?_; intro v6 w6 ho6 hg6 hat6; have HO6 := Lib.hid ho6; have HB6 : Hid (Below w0.heap.size w0 w6) := Lib.hid (Below.grown (Below.alloc HB5.out HB5.out.size _) hg6 (Nat.le_trans HB5.out.size (by simp)) (fun k hk => (HO5.out.lt k hk).1)); obtain ⟨tb, tn, td, htn, rfl⟩ : ∃ a n c, n = (([] : List Flw) ++ [x]).length ∧ v6 = Value.slice a n c := (by obtain ⟨a, c, h⟩ := ho6.slice; exact ⟨a, _, c, rfl, h⟩); clear htn; clear ho6 hg6 hat6) | (refine wpList_append_x (E := flL) (k := 3) (fun _ => rfl) (by decide) flL_one Tryz.underlying30 infoFl rfl (by decide) rfl _ _ rfl w0.heap.size _ (([] : List Flw) ++ [x]) rfl HO6.out _ ([] : List Flw) rfl (.inl ⟨rfl, _, _, rfl⟩) (by have := HLe.out; simp <;> omega) HB6.out.size ?_; intro v7 w7 ho7 hg7 hat7; have HO7 := Lib.hid ho7; have HB7 : Hid (Below w0.heap.size w0 w7) := Lib.hid (Below.grown HB6.out hg7 HB6.out.size (fun k hk => (HO6.out.lt k hk).1)); clear ho7 hg7 hat7))
        all_goals
          go_ret
          exact ⟨_, rfl, by rw [HPu.out, HEk.out]; have := HO7.out.base HB0.out.size; rw [List.append_assoc] at this; exact this, onF HB0.out HB7.out⟩
      · injection hv with hv1 _ hv3
        subst hv1 hv3
        have hkl : l.length ≤ l.length := Nat.le_refl _
        have HRw := Lib.hid (fun (wx : World) (hb : Below w0.heap.size w0 wx) => And.intro (RowX.head (E := flL) (n := 3) hc1 hc2 (fun j hj i c hi he => keepF hb (hT j hj i c hi he)) hkl) (RowX.tail (E := flL) (n := 3) hc1 hc2 (fun j hj i c hi he => keepF hb (hT j hj i c hi he)) hkl))
        clear hb hp hlt hk x0 x1 x2 hT hkl
        go_wp2_with fail
        go_quiet (fail)
        have HB4 : Hid (Below w0.heap.size w0 (wr.drewN nq)) := Lib.hid (HBn.out nq)
        generalize wr.drewN nq = w4 at *
        have HH := Lib.hid (HRw.out w4 HB4.out)
        go_wp2_with (at_builtin; first | (refine wpList_append_x (E := flL) (k := 3) (fun _ => rfl) (by decide) flL_one Tryz.underlying30 infoFl rfl (by decide) rfl _ _ rfl w0.heap.size _ [] rfl (OwnX.nil _ _ _ _ _) _ (l.take l.length) rfl HH.out.1 (by have := HLe.out; simp <;> omega) HB4.out.size ?_; intro v5 w5 ho5 hg5 hat5; rw [List.nil_append] at ho5; have HO5 := Lib.hid ho5; have HB5 : Hid (Below w0.heap.size w0 w5) := Lib.hid (Below.grown HB4.out hg5 HB4.out.size (fun k hk => by cases hk)); have x0 := keepF HB5.out HK.out.1; have x1 := keepF HB5.out HK.out.2.1; have x2 := keepF HB5.out HK.out.2.2; obtain ⟨sb, sn, sd, hsn, rfl⟩ : ∃ a n c, n = (l.take l.length).length ∧ v5 = Value.slice a n c := (by obtain ⟨a, c, h⟩ := ho5.slice; exact ⟨a, _, c, rfl, h⟩); clear hsn; clear ho5 hg5 hat5) | (refine wpList_append_x (E := flL) (k := 3) (fun _ => rfl) (by decide) flL_one Tryz.underlying30 infoFl rfl (by decide) rfl _ _ rfl w0.heap.size _ (l.take l.length) rfl (HO5.out.grown (newF w5 _)) _ [x] rfl (rowx_new (E := flL) (k := 3) (fun _ => rfl) w5 x #[.int .i64 x.d, .int .i64 x.c, .int .i64 x.n] (by rfl) 50 _ rfl) (by have := HLe.out; simp <;> omega) (Nat.le_trans HB5.out.size (by simp)) ?_; intro v6 w6 ho6 hg6 hat6; have HO6 := Lib.hid ho6; have HB6 : Hid (Below w0.heap.size w0 w6) := Lib.hid (Below.grown (Below.alloc HB5.out HB5.out.size _) hg6 (Nat.le_trans HB5.out.size (by simp)) (fun k hk => (HO5.out.lt k hk).1)); have HH6 := Lib.hid (HRw.out w6 HB6.out); obtain ⟨tb, tn, td, htn, rfl⟩ : ∃ a n c, n = (l.take l.length ++ [x]).length ∧ v6 = Value.slice a n c := (by obtain ⟨a, c, h⟩ := ho6.slice; exact ⟨a, _, c, rfl, h⟩); clear htn; clear ho6 hg6 hat6) | (refine wpList_append_x (E := flL) (k := 3) (fun _ => rfl) (by decide) flL_one Tryz.underlying30 infoFl rfl (by decide) rfl _ _ rfl w0.heap.size _ (l.take l.length ++ [x]) rfl HO6.out _ (l.drop l.length) rfl (by first | exact HH6.out.2 | (rw [List.drop_length]; exact .inl ⟨rfl, _, _, rfl⟩)) (by have := HLe.out; simp <;> omega) HB6.out.size ?_; intro v7 w7 ho7 hg7 hat7; have HO7 := Lib.hid ho7; have HB7 : Hid (Below w0.heap.size w0 w7) := Lib.hid (Below.grown HB6.out hg7 HB6.out.size (fun k hk => (HO6.out.lt k hk).1)); clear ho7 hg7 hat7))
        all_goals
          go_ret
          exact ⟨_, rfl, by rw [HPu.out, HEk.out]; have := HO7.out.base HB0.out.size; rw [List.append_assoc] at this; exact this, onF HB0.out HB7.out⟩

end Go.Proofs.YtjafbfepdmgjnaaGreatDoor

namespace Go.Proofs.YtjafbfepdmgjnaaGreatDoor
open Go.RowKit Go.Lib Go.Shelf Go.Maps
set_option linter.unusedVariables false
set_option linter.unusedSimpArgs false

theorem join_gv {n : Nd} {L : List (List Nd)} {w : World} {e : Ending} {w' : World} (h : JoinE n L w e w') : ∃ vj, e = .returned (.tuple #[vj, .int .i64 (jnK n L)]) ∧ (jnK n L ≠ 0 → vj = .slice none 0 0) ∧ (jnK n L = 0 → OwnN w' w.heap.size vj (n :: L.flatten)) := by
  by_cases hk : jnK n L = 0
  · obtain ⟨v', h1, h2⟩ := h.2 hk
    exact ⟨v', by rw [hk]; exact h1, fun h => absurd hk h, fun _ => h2⟩
  · exact ⟨_, h.1 hk, fun _ => rfl, fun h => absurd h hk⟩
theorem gv_bd {t : List Nd} (h : BdT t) : BdT (gvN :: t) := fun p hp => by
  cases p with
  | zero => exact ⟨⟨by show (-9223372036854775808 : Int) ≤ 0; decide, by show (0 : Int) ≤ 9223372036854775807; decide⟩, ⟨by show (-9223372036854775808 : Int) ≤ 0; decide, by show (0 : Int) ≤ 9223372036854775807; decide⟩⟩
  | succ p => exact h p (by simpa using hp)
/-- Join of one contract that is given. -/
theorem gv_any (t : List Nd) (hl : t.length ≤ 1000) (hbd : BdT t) (v : Value) (w : World) (hv : SlT w v t) (C : KndW w) :
    Calls Tryz.prog 19 #[.agg #[.int .i64 11, .int .i64 0, .int .i64 0, .int .i64 0, .int .i64 0], .slice (some ⟨w.heap.size, 0, none⟩) 1 1] (w.alloc (.cells #[v] 22)) fun e w' => (∃ vj, e = .returned (.tuple #[vj, .int .i64 (jnK gvN [t])]) ∧ (jnK gvN [t] ≠ 0 → vj = .slice none 0 0) ∧ (jnK gvN [t] = 0 → OwnN w' w.heap.size vj (gvN :: t))) ∧ Below w.heap.size w w' := by
  have hS : SlS (w.alloc (.cells #[v] 22)) (some ⟨w.heap.size, 0, none⟩) 1 [t] := fun _ => ⟨w.heap.size, 0, rfl, Nat.le_refl _, by decide, fun j hj => by
    have : j = 0 := by have : j < 1 := hj; omega
    subst this
    exact ⟨v, by rw [World.cell?_alloc_at _ _ _ _ rfl]; rfl, hv.keep (newF w _)⟩⟩
  have := join_any gvN [t] (by simp) (fun j hj => by cases (show j = 0 by simpa using hj); exact hl) (by have := gv_bd hbd; simpa using this) (some ⟨w.heap.size, 0, none⟩) 1 (w.alloc (.cells #[v] 22)) hS (C.keep (newF w _))
  refine this.mono ?_
  rintro e w' ⟨h1, h2⟩
  obtain ⟨vj, h3, h4, h5⟩ := join_gv h1
  refine ⟨⟨vj, h3, h4, fun h => ?_⟩, onF (newF w _) h2⟩
  have := (h5 h).base (show w.heap.size ≤ _ by simp)
  simpa using this
/-- Flows put one by one. -/
def putA (l : List Flw) : List Flw := l.foldl putF []
theorem put_all : ∀ (l a : List Flw), SrF a → SrF (l.foldl putF a) ∧ (l.foldl putF a).Perm (l ++ a)
  | [], a, h => ⟨h, List.Perm.refl _⟩
  | x :: l, a, h => by
    obtain ⟨h1, h2⟩ := put_all l (putF a x) (putF_srt x h)
    refine ⟨h1, h2.trans ?_⟩
    refine (List.Perm.append_left l (putF_perm a x)).trans ?_
    exact List.perm_middle
theorem putA_snoc (l : List Flw) (x : Flw) : putA (l ++ [x]) = putF (putA l) x := by unfold putA; rw [List.foldl_append]; rfl
theorem putA_len (l : List Flw) : (putA l).length = l.length := by
  have := (put_all l [] List.Pairwise.nil).2.length_eq
  rw [List.append_nil] at this
  exact this
theorem putA_eq {l m : List Flw} (h : l.Perm m) (hs : SrF m) : putA l = m := by
  obtain ⟨h1, h2⟩ := put_all l [] List.Pairwise.nil
  rw [List.append_nil] at h2
  exact srF_uniq h1 hs (h2.trans h)
theorem ng_two (l : List Flw) : (l.map ngF).map ngF = l := by
  rw [List.map_map]
  have : ngF ∘ ngF = id := by funext f; obtain ⟨d, c, n⟩ := f; simp [ngF]
  rw [this, List.map_id]

set_option maxRecDepth 100000 in
set_option maxHeartbeats 4000000 in
theorem gives_walk (w : World) (t : List Nd) (hbd : BdT t) (v0 : Value) (h0 : SlT w v0 t) (fr tu : Int) (L : List Tol) (s1 : Value) (h1 : SlTol w s1 L) (hok1 : ∀ j, j < L.length → (L.getD j default).Ok) (C : KndW w) :
    Calls Tryz.prog 5 #[.agg #[v0, .int .i64 fr, .int .i64 tu, s1]] w fun e w' => e = .returned (.bool true) ∧ Below w.heap.size w w' := by
  obtain ⟨a0, c0, rfl⟩ := h0.slice
  obtain ⟨a1, c1, rfl⟩ : ∃ a c, s1 = .slice a L.length c := by
    rcases h1 with ⟨rfl, a, c, rfl⟩ | ⟨_, b, o, c, rfl, _⟩
    · exact ⟨_, _, rfl⟩
    · exact ⟨_, _, rfl⟩
  have HAw := Lib.hid (fun (w' : World) (hb : Below w.heap.size w w') => awake9_any w' (C.keep hb))
  have hb0 := newF w (.cells #[.slice a0 t.length c0, .int .i64 fr, .int .i64 tu, .slice a1 L.length c1] 25)
  have rr : ∀ k v, (#[.slice a0 t.length c0, .int .i64 fr, .int .i64 tu, .slice a1 L.length c1] : Array Value)[k]? = some v → (w.alloc (.cells #[.slice a0 t.length c0, .int .i64 fr, .int .i64 tu, .slice a1 L.length c1] 25)).cell? ⟨w.heap.size, k, none⟩ = some v := fun k v hv => by rw [World.cell?_alloc_at _ _ _ _ rfl]; exact hv
  have r0 := rr 0 (.slice a0 t.length c0) rfl
  have r1 := rr 1 (.int .i64 fr) rfl
  have r2 := rr 2 (.int .i64 tu) rfl
  have r3 := rr 3 (.slice a1 L.length c1) rfl
  have HR := Lib.hid (And.intro r0 (And.intro r1 (And.intro r2 r3)))
  have HB0 := Lib.hid hb0
  have HS := Lib.hid (And.intro (h0.keep hb0) (And.intro (h1.keep hb0) (C.keep hb0)))
  have HMd := Lib.hid (fun (w' : World) (hs : SlTol w' (.slice a1 L.length c1) L) => made_any w' _ L hs hok1)
  have HFw := Lib.hid (fun (w' : World) => few_any w' a0 a1 t.length L.length c0 c1 fr tu)
  have hrel := rel_made L L.length (Nat.le_refl _) hok1
  rw [List.take_length] at hrel
  have HRel := Lib.hid (And.intro hrel.1 (And.intro hrel.2.1 (And.intro (plF_ok L (ok_mem hok1)) (plC_ok L))))
  have HBd := Lib.hid hbd
  obtain ⟨few, hfew⟩ : ∃ b, b = decide (t.length ≤ 100 ∧ L.length ≤ 60) := ⟨_, rfl⟩
  rw [← hfew] at HFw
  have HF := Lib.hid hfew
  clear hb0 rr r0 r1 r2 h0 h1 hok1 C hbd hrel hfew
  go_enter Tryz.func5, Tryz.ntmps5
  go_wp2_with fail
  generalize w.alloc (.cells #[.slice a0 t.length c0, .int .i64 fr, .int .i64 tu, .slice a1 L.length c1] 25) = w0 at *
  refine (HMd.out _ HS.out.2.1).mono ?_
  rintro e w1 ⟨B, bf, bc, rfl, hm, hB, hbf, hbc, hb1⟩
  have HM := Lib.hid hm
  have HB1 := Lib.hid hb1
  have HBw := Lib.hid (onF HB0.out hb1)
  have r0 := keepF hb1 HR.out.1
  have r1 := keepF hb1 HR.out.2.1
  have r2 := keepF hb1 HR.out.2.2.1
  have r3 := keepF hb1 HR.out.2.2.2
  clear hm hB hbf hbc hb1 HMd
  go_wp2_with fail
  refine (HFw.out _).mono ?_
  rintro e w2 ⟨rfl, hb2⟩
  have HB2 := Lib.hid (onF HBw.out hb2)
  have HM2 := Lib.hid (HM.out.keep hb2)
  have HS2 := Lib.hid (And.intro ((HS.out.1.keep HB1.out).keep hb2) ((HS.out.2.2.keep HB1.out).keep hb2))
  have r0 := keepF hb2 r0
  have r1 := keepF hb2 r1
  have r2 := keepF hb2 r2
  have HR2 := Lib.hid (And.intro r0 (And.intro r1 r2))
  clear hb2 HFw HM HB1 HBw HB0 HR HS r3
  cases few with
  | false =>
    clear r0 r1 r2
    go_wp2_with fail
    refine (HAw.out _ HB2.out).mono ?_
    rintro e w3 ⟨rfl, hb3⟩
    have HB3 := Lib.hid (onF HB2.out hb3)
    clear hb3
    go_wp2_with fail
    go_ret
    exact ⟨rfl, HB3.out⟩
  | true =>
    have hl : t.length ≤ 100 ∧ L.length ≤ 60 := of_decide_eq_true HF.out.symm
    have HL := Lib.hid hl
    have HRun := Lib.hid (fun (w' : World) (hb : Below w2.heap.size w2 w') (T : List Nd) (hT : T.length ≤ 1000) (hB : BdT T) (v : Value) (hs : SlT w' v T) => And.intro (flows_any w' T hT hB v hs (HS2.out.2.keep hb) fr tu (HM2.out.keep hb) HRel.out.1 HRel.out.2.1 HRel.out.2.2.1 HRel.out.2.2.2) (waits_any w' T hT hB v hs (HS2.out.2.keep hb) fr tu (HM2.out.keep hb) HRel.out.1 HRel.out.2.1 HRel.out.2.2.1 HRel.out.2.2.2))
    have HJ1 := Lib.hid (gv_any t (by omega) HBd.out _ w2 HS2.out.1 HS2.out.2)
    have HEr := Lib.hid (fun (T : List Nd) (h : jnK gvN [T] = 0) => gv_er h HRel.out.2.2.1 HRel.out.2.2.2 fr tu)
    clear hl
    go_wp2_with fail
    refine HJ1.out.mono ?_
    rintro e w3 ⟨⟨vj, rfl, hj0, hj1⟩, hb3⟩
    have HB3 := Lib.hid hb3
    have r0 := keepF hb3 HR2.out.1
    have r1 := keepF hb3 HR2.out.2.1
    have r2 := keepF hb3 HR2.out.2.2
    obtain ⟨j1, hj⟩ : ∃ j, j = jnK gvN [t] := ⟨_, rfl⟩
    rw [← hj] at hj0 hj1 ⊢
    have HJ := Lib.hid hj
    have HJa := Lib.hid hj0
    have HJb := Lib.hid hj1
    clear hb3 hj hj0 hj1 HJ1
    by_cases e1 : j1 = 0
    · subst e1
      have hown := HJb.out rfl
      obtain ⟨ja, jn, jc, hjn, rfl⟩ : ∃ a n c, n = (gvN :: t).length ∧ vj = Value.slice a n c := by
        obtain ⟨a, c, h⟩ := hown.slice
        exact ⟨a, _, c, rfl, h⟩
      clear hjn
      have HO1 := Lib.hid hown
      have HJ2 := Lib.hid (gv_any (gvN :: t) (by have := HL.out; simp; omega) (gv_bd HBd.out) _ w3 hown.sl (HS2.out.2.keep HB3.out))
      clear hown HJa HJb
      go_wp2_with fail
      refine HJ2.out.mono ?_
      rintro e w4 ⟨⟨vk, rfl, hk0, hk1⟩, hb4⟩
      have HB4 := Lib.hid (onF HB3.out hb4)
      have r0 := keepF hb4 r0
      have r1 := keepF hb4 r1
      have r2 := keepF hb4 r2
      obtain ⟨j2, hj⟩ : ∃ j, j = jnK gvN [gvN :: t] := ⟨_, rfl⟩
      rw [← hj] at hk0 hk1 ⊢
      have HK := Lib.hid hj
      have HKa := Lib.hid hk0
      have HKb := Lib.hid hk1
      have HO1b := Lib.hid (HO1.out.grown hb4)
      clear hb4 hj hk0 hk1 HJ2 HO1
      by_cases e2 : j2 = 0
      · subst e2
        have hown := HKb.out rfl
        have HO2 := Lib.hid hown
        clear hown HKa HKb
        obtain ⟨q1, q2⟩ := HEr.out t HJ.out.symm
        obtain ⟨q3, q4⟩ := HEr.out (gvN :: t) HK.out.symm
        rw [q1] at q3 q4
        have HQ := Lib.hid (And.intro q2 q4)
        have HF1 := Lib.hid (HRun.out w4 HB4.out t (by have := HL.out; omega) HBd.out _ (HS2.out.1.keep HB4.out)).1
        have HF2 := Lib.hid (fun (w' : World) (hb : Below w4.heap.size w4 w') => (HRun.out w' (onF HB4.out hb) (gvN :: t) (by have := HL.out; simp; omega) (gv_bd HBd.out) _ (HO1b.out.grown hb).sl))
        have HF3 := Lib.hid (fun (w' : World) (hb : Below w4.heap.size w4 w') => (HRun.out w' (onF HB4.out hb) (gvN :: gvN :: t) (by have := HL.out; simp; omega) (gv_bd (gv_bd HBd.out)) _ (HO2.out.grown hb).sl).1)
        have HW1 := Lib.hid (fun (w' : World) (hb : Below w2.heap.size w2 w') => (HRun.out w' hb t (by have := HL.out; omega) HBd.out _ (HS2.out.1.keep hb)).2)
        unfold FloQ WaiQ at HF2
        unfold FloQ at HF3 HF1
        unfold WaiQ at HW1
        rw [q1] at HF2
        rw [q3] at HF3
        have HWq := Lib.hid (fun h => (q2 h).2.1)
        have HQe := Lib.hid (And.intro q1 q3)
        clear q1 q2 q3 q4 HEr
        generalize erD t (plF L) (plC L) fr tu = E at *
        go_wp2_with fail
        refine HF1.out.mono ?_
        rintro e w5 ⟨hb5, va, ma, rfl, ho, hml, hsr, hne, hp⟩
        have HPa := Lib.hid (And.intro hml (And.intro hsr (And.intro hne hp)))
        have HOa := Lib.hid ho
        have HB5 := Lib.hid hb5
        have HF2a := Lib.hid (HF2.out w5 hb5).1
        have r0 := keepF hb5 r0
        have r1 := keepF hb5 r1
        have r2 := keepF hb5 r2
        obtain ⟨aa, ac, rfl⟩ := ho.slice
        clear ho hml hsr hne hp hb5 HF1
        go_wp2_with fail
        refine HF2a.out.mono ?_
        rintro e w6 ⟨hb6, vb, mb, rfl, ho, hml, hsr, hne, hp⟩
        have HPb := Lib.hid (And.intro hml (And.intro hsr (And.intro hne hp)))
        have HOb := Lib.hid ho
        have HB6 := Lib.hid (onF HB5.out hb6)
        have HOa6 := Lib.hid (HOa.out.grown hb6)
        have HF3a := Lib.hid (HF3.out w6 (onF HB5.out hb6))
        have r0 := keepF hb6 r0
        have r1 := keepF hb6 r1
        have r2 := keepF hb6 r2
        obtain ⟨ba, bc', rfl⟩ := ho.slice
        clear ho hml hsr hne hp hb6 HF2a HF3 HOa
        go_wp2_with fail
        refine HF3a.out.mono ?_
        rintro e w7 ⟨hb7, vc, mc, rfl, ho, hml, hsr, hne, hp⟩
        have hRa := OwnX.row (E := flL) (k := 3) (fun _ => rfl) (HOa6.out.grown hb7)
        have hRb := OwnX.row (E := flL) (k := 3) (fun _ => rfl) (HOb.out.grown hb7)
        have hRc := OwnX.row (E := flL) (k := 3) (fun _ => rfl) ho
        have hall : mc = ma ∧ (mb.map ngF).Perm ma ∧ ∀ f ∈ mb, -9223372036854775807 ≤ f.n ∧ f.n ≤ 9223372036854775807 := by
          by_cases hE : E = 0
          · obtain ⟨x1, x2, x3⟩ := HQ.out.1 hE
            obtain ⟨x4, x5, x6⟩ := HQ.out.2 hE
            have pa := HPa.out.2.2.2 hE
            have pb := HPb.out.2.2.2 hE
            have pc := hp hE
            rw [x1] at pb
            rw [x4, x1, ng_two] at pc
            refine ⟨srF_uniq hsr HPa.out.2.1 (pc.trans pa.symm), ?_, fun f hf => ?_⟩
            · have := pb.map ngF
              rw [ng_two] at this
              exact this.trans pa.symm
            · obtain ⟨g, hg, rfl⟩ := List.mem_map.1 (pb.mem_iff.1 hf)
              have := x3 g hg
              show -9223372036854775807 ≤ -g.n ∧ -g.n ≤ 9223372036854775807
              omega
          · rw [HPa.out.2.2.1 hE, HPb.out.2.2.1 hE, hne hE]
            exact ⟨rfl, List.Perm.refl _, fun f hf => by cases hf⟩
        obtain ⟨rfl, hpm, hlm⟩ := hall
        have HPm := Lib.hid (And.intro hpm (And.intro hlm (And.intro HPa.out.2.1 HPb.out.1)))
        have hlen : mb.length = mc.length := by have := hpm.length_eq; rw [List.length_map] at this; exact this
        have HLn := Lib.hid hlen
        have HRa := Lib.hid hRa
        have HRb := Lib.hid hRb
        have HB7 := Lib.hid (onF HB6.out hb7)
        have r0 := keepF hb7 r0
        have r1 := keepF hb7 r1
        have r2 := keepF hb7 r2
        have HFe := Lib.hid (flows_eq w7 mc _ _ hRa hRc)
        obtain ⟨ca, cc, rfl⟩ := ho.slice
        clear ho hml hsr hne hp hb7 HF3a hpm hlm hlen hRa hRb hRc HPa HPb HOa6 HOb HQ
        go_wp2_with fail
        refine HFe.out.mono ?_
        rintro e w8 ⟨rfl, hb8⟩
        have hl1 : ((mb.length : Int) != (mc.length : Int)) = false := by rw [HLn.out]; simp
        have HB8 := Lib.hid (onF HB7.out hb8)
        have HRa8 := Lib.hid (HRa.out.keep hb8)
        have HRb8 := Lib.hid (HRb.out.keep hb8)
        have r0 := keepF hb8 r0
        have r1 := keepF hb8 r1
        have r2 := keepF hb8 r2
        have HR8 := Lib.hid (And.intro r0 (And.intro r1 r2))
        clear hb8 HFe HRa HRb r0 r1 r2
        go_wp2_with fail
        clear hl1
        go_loopw [15, 14] (fun vi vl wx => ∃ i : Nat, i ≤ mb.length ∧ vi = .int .i64 (i : Nat) ∧ OwnX flL 3 50 wx w8.heap.size vl (putA ((mb.take i).map ngF)) ∧ Below w8.heap.size w8 wx) (fun vi _ _ => mb.length - (RowKit.intOf vi).toNat)
        case atStart => exact ⟨0, Nat.zero_le _, rfl, OwnX.nil _ _ _ _ _, Below.refl _ _⟩
        case round =>
          obtain ⟨i, hi, rfl, ho, hb⟩ := hrel
          have HO := Lib.hid ho
          have HB := Lib.hid hb
          by_cases hlt : i < mb.length
          · have p0 : (0 : Int) ≤ (i : Int) := by omega
            have p1 : (i : Int) < (mb.length : Int) := by omega
            have HLt := Lib.hid hlt
            obtain ⟨ga, oa, ca1, hv, hf1, hf2, hTa⟩ : ∃ g o cap, Value.slice ba mb.length bc' = .slice (some ⟨g, o, none⟩) mb.length cap ∧ mb.length ≤ cap ∧ cap ≤ 9223372036854775807 ∧ ∀ j, j < mb.length → ∀ i c, i < 3 → (flL (mb.getD j default))[i]? = some c → w8.cell? ⟨g, o + j * 3 + i, none⟩ = some c := by
              rcases HRb8.out with ⟨e, _⟩ | ⟨_, g, o, cap, h1, h2, h3, h4⟩
              · rw [e] at hlt; exact absurd hlt (Nat.not_lt_zero _)
              · exact ⟨g, o, cap, h1, h2, h3, h4⟩
            injection hv with hv1 _ hv3
            subst hv1 hv3
            have k0 := keepF hb (hTa i hlt 0 _ (by omega) rfl)
            have k1 := keepF hb (hTa i hlt 1 _ (by omega) rfl)
            have k2 := keepF hb (hTa i hlt 2 _ (by omega) rfl)
            have HTk : Hid ((mb.take (i + 1)).map ngF = (mb.take i).map ngF ++ [ngF (mb.getD i default)]) := Lib.hid (by rw [take_flw hlt, List.map_append]; rfl)
            have HLm := Lib.hid (HPm.out.2.1 (mb.getD i default) (by rw [List.getD_eq_getElem?_getD, List.getElem?_eq_getElem hlt]; exact List.getElem_mem hlt))
            have HPl : Hid ((putA ((mb.take i).map ngF)).length ≤ 1000) := Lib.hid (by rw [putA_len, List.length_map, List.length_take]; have := HPm.out.2.2.2; omega)
            generalize mb.getD i default = y at *
            obtain ⟨yd, yc, yn⟩ := y
            have k0 : wr.cell? ⟨ga, oa + i * 3, none⟩ = some (.int .i64 yd) := k0
            have k1 : wr.cell? ⟨ga, oa + i * 3 + 1, none⟩ = some (.int .i64 yc) := k1
            have k2 : wr.cell? ⟨ga, oa + i * 3 + 2, none⟩ = some (.int .i64 yn) := k2
            have n0 : -9223372036854775808 ≤ -yn := by have := HLm.out.2; dsimp only at this; omega
            have n1 : -yn ≤ 9223372036854775807 := by have := HLm.out.1; dsimp only at this; omega
            have hbx := newF wr (.cells #[.int .i64 yd, .int .i64 yc, .int .i64 (-yn)] 50)
            have HBx := Lib.hid hbx
            have HPt := Lib.hid (put9_any _ _ HPl.out _ (OwnX.row (E := flL) (k := 3) (fun _ => rfl) (ho.grown hbx)) (ngF ⟨yd, yc, yn⟩))
            obtain ⟨la, ln, lc, hln, rfl⟩ : ∃ a n c, n = (putA ((mb.take i).map ngF)).length ∧ u14 = Value.slice a n c := by
              obtain ⟨a, c, h⟩ := ho.slice
              exact ⟨a, _, c, rfl, h⟩
            unfold ngF at HPt
            dsimp only at HPt
            clear hTa hlt ho hb hbx hln
            go_wp2_with fail
            refine HPt.out.mono ?_
            rintro e w9 ⟨v9, rfl, ho9, hb9⟩
            have HO9 : Hid (OwnX flL 3 50 w9 w8.heap.size v9 (putA ((mb.take (i + 1)).map ngF))) := Lib.hid (by rw [HTk.out, putA_snoc]; exact ho9.base (Nat.le_trans HB.out.size HBx.out.size))
            have HB9 := Lib.hid (HB.out.trans ((onF HBx.out hb9).mono HB.out.size))
            clear ho9 hb9 HPt
            go_wp2_with fail
            go_roundw
            case rel => exact ⟨i + 1, HLt.out, by go_num, HO9.out, HB9.out⟩
            case measure => have := HLt.out; simp [RowKit.intOf]; omega
          · have hie : i = mb.length := by omega
            subst hie
            have p1 : ¬ (mb.length : Int) < (mb.length : Int) := by omega
            rw [List.take_length, putA_eq HPm.out.1 HPm.out.2.2.1] at ho
            have HRl := Lib.hid (OwnX.row (E := flL) (k := 3) (fun _ => rfl) ho)
            obtain ⟨la, lc, rfl⟩ := ho.slice
            have HBz := Lib.hid (onF HB8.out hb)
            have HRaz := Lib.hid (HRa8.out.keep hb)
            have r0 := keepF hb HR8.out.1
            have r1 := keepF hb HR8.out.2.1
            have r2 := keepF hb HR8.out.2.2
            have HX1 := Lib.hid (HW1.out wr (onF HB4.out HBz.out))
            have HX2 := Lib.hid (fun (w' : World) (hb : Below w4.heap.size w4 w') => (HF2.out w' hb).2)
            clear ho hb hlt hi HO HB HRa8 HRb8
            go_wp2_with fail
            refine HX1.out.mono ?_
            rintro e w9 ⟨hb9, vx, mx, rfl, ho9, hml, hsr, hok, hne, hp⟩
            have HPx := Lib.hid (And.intro hml (And.intro hsr (And.intro hne hp)))
            have HOx := Lib.hid ho9
            have HB9 := Lib.hid (onF HBz.out hb9)
            have HRl9 := Lib.hid (HRl.out.keep hb9)
            have HRa9 := Lib.hid (HRaz.out.keep hb9)
            have r0 := keepF hb9 r0
            have r1 := keepF hb9 r1
            have r2 := keepF hb9 r2
            have HX2a := Lib.hid (HX2.out w9 (onF HBz.out hb9))
            obtain ⟨xa, xn, xc, hxn, rfl⟩ : ∃ a n c, n = mx.length ∧ vx = Value.slice a n c := by
              obtain ⟨a, c, h⟩ := ho9.slice
              exact ⟨a, _, c, rfl, h⟩
            clear ho9 hml hsr hok hne hp hb9 HX1 HX2 HRl HRaz hxn
            go_wp2_with fail
            refine HX2a.out.mono ?_
            rintro e w10 ⟨hb10, vy, my, rfl, ho10, hml, hsr, hok, hne, hp⟩
            have hxy : mx = my := by
              by_cases hE : E = 0
              · refine srW_uniq HPx.out.2.1 hsr fun x => ?_
                rw [HPx.out.2.2.2 hE x, hp hE x]
                rw [HWq.out hE]
              · rw [HPx.out.2.2.1 hE, hne hE]
            subst hxy
            have HEqW := Lib.hid (fun (w' : World) (hb : Below w10.heap.size w10 w') => waits_eq w' mx _ _ (OwnX.row (E := waL) (k := 3) (fun _ => rfl) ((HOx.out.grown hb10).grown hb)) (OwnX.row (E := waL) (k := 3) (fun _ => rfl) (ho10.grown hb)))
            have HEqF := Lib.hid (flows_eq w10 mc _ _ (HRa9.out.keep hb10) (HRl9.out.keep hb10))
            have HB10 := Lib.hid (onF HB9.out hb10)
            obtain ⟨ya, yn, yc, hyn, rfl⟩ : ∃ a n c, n = mx.length ∧ vy = Value.slice a n c := by
              obtain ⟨a, c, h⟩ := ho10.slice
              exact ⟨a, _, c, rfl, h⟩
            clear ho10 hml hsr hok hne hp hb10 HX2a hyn HRa9 HRl9 HPx
            go_wp2_with fail
            refine HEqF.out.mono ?_
            rintro e w11 ⟨rfl, hb11⟩
            have HB11 := Lib.hid (onF HB10.out hb11)
            have HEqW1 := Lib.hid (HEqW.out w11 hb11)
            clear hb11 HEqF HEqW
            go_wp2_with fail
            refine HEqW1.out.mono ?_
            rintro e w12 ⟨rfl, hb12⟩
            have HB12 := Lib.hid (onF (onF HB2.out HB4.out) (onF HB11.out hb12))
            clear hb12 HEqW1
            go_wp2_with fail
            refine (HAw.out _ HB12.out).mono ?_
            rintro e w13 ⟨rfl, hb13⟩
            have HB13 := Lib.hid (onF HB12.out hb13)
            clear hb13
            go_wp2_with fail
            go_ret
            exact ⟨rfl, HB13.out⟩
      · have e2' : ((j2 : Int) != 0) = true := bne_iff_ne.2 (by omega)
        have e2'' : ((j2 : Int) == 0) = false := beq_false_of_ne (by omega)
        clear HKa HKb e2 r0 r1 r2
        go_wp2_with fail
        refine (HAw.out _ (onF HB2.out HB4.out)).mono ?_
        rintro e w5 ⟨rfl, hb5⟩
        have HB5 := Lib.hid (onF (onF HB2.out HB4.out) hb5)
        clear hb5
        go_wp2_with fail
        go_ret
        exact ⟨rfl, HB5.out⟩
    · have hvj := HJa.out e1
      subst hvj
      have e1' : ((j1 : Int) != 0) = true := bne_iff_ne.2 (by omega)
      have e1'' : ((j1 : Int) == 0) = false := beq_false_of_ne (by omega)
      have HJ2 := Lib.hid (gv_any [] (by simp) (fun p hp => absurd hp (Nat.not_lt_zero _)) (.slice none 0 0) w3 (.inl ⟨rfl, _, _, rfl⟩) (HS2.out.2.keep HB3.out))
      clear HJa HJb e1 r0 r1 r2
      go_wp2_with fail
      refine HJ2.out.mono ?_
      rintro e w4 ⟨⟨vk, rfl, _, _⟩, hb4⟩
      have HB4 := Lib.hid (onF HB2.out (onF HB3.out hb4))
      clear hb4 HJ2
      go_wp2_with fail
      refine (HAw.out _ HB4.out).mono ?_
      rintro e w5 ⟨rfl, hb5⟩
      have HB5 := Lib.hid (onF HB4.out hb5)
      clear hb5
      go_wp2_with fail
      go_ret
      exact ⟨rfl, HB5.out⟩

end Go.Proofs.YtjafbfepdmgjnaaGreatDoor

/-
  What a contract within another one does: no program.
-/
import Derived.Test.YtgeneoamngfomaaGreatDoorEA
import Derived.Test.YtgeneoamngfomaaGreatDoorEW
import Derived.Test.YtgeneoamngfomaaGreatDoorJq
import Derived.Deep.RegionHeld3
namespace Go.Proofs.YtgeneoamngfomaaGreatDoor
open Go.RowKit Go.Lib
set_option linter.unusedVariables false
set_option linter.unusedSimpArgs false

theorem sub_sub {t : List Nd} {p n q m : Nat} (h : q + m ≤ n) : subT (subT t p n) q m = subT t (p + q) m := by
  unfold subT
  rw [List.drop_take, List.drop_drop, List.take_take, Nat.min_eq_left (by omega)]
theorem sub_U {t : List Nd} {p : Nat} (h : TmA t p) {q : Nat} (hq : q < szA t p) : subT (subT t p (szA t p)) q (szA (subT t p (szA t p)) q) = subT t (p + q) (szA t (p + q)) := by
  obtain ⟨h1, h2, h3, h4⟩ := tm_nest h hq
  rw [← h3, sub_sub (by omega)]
theorem sub_ky {t : List Nd} {p : Nat} (h : TmA t p) {q : Nat} (hq : q < szA t p) : kyU (subT t p (szA t p)) q = kyU t (p + q) := by
  unfold kyU; rw [sub_U h hq]
theorem vl_U {t : List Nd} {fx : Int → Option Rat} {k : Nat} (h : NmA t k) : vlA t fx k = vlA (subT t k (szA t k)) fx 0 := by
  have := vl_sub (fx := fx) h (szA t (k + 0)) 0 (by have := h.tm.bd; omega) (Nat.le_refl _)
  rw [Nat.add_zero] at this
  exact this.symm
/-- The terms below a contract within another one stand as they stand in it. -/
structure Ins (t : List Nd) (p : Nat) : Prop where
  ok : (ofK t).2 = 0
  ct : CtA t p
theorem Ins.tm {t : List Nd} {p : Nat} (h : Ins t p) : TmA t p := ok_tm h.ok h.ct.lt
theorem Ins.sub {t : List Nd} {p : Nat} (h : Ins t p) : (ofK (subT t p (szA t p))).2 = 0 := by rw [sub_of h.ok h.ct.lt]
theorem Ins.len {t : List Nd} {p : Nat} (h : Ins t p) : (subT t p (szA t p)).length = szA t p := subT_len h.tm.bd.2
theorem Ins.op {t : List Nd} {p : Nat} (h : Ins t p) {q : Nat} (hq : q < szA t p) : opA (subT t p (szA t p)) q = opA t (p + q) := subT_op h.tm.bd.2 hq
theorem Ins.a {t : List Nd} {p : Nat} (h : Ins t p) {q : Nat} (hq : q < szA t p) : aA (subT t p (szA t p)) q = aA t (p + q) := by unfold aA; rw [subT_get h.tm.bd.2 hq]
theorem Ins.b {t : List Nd} {p : Nat} (h : Ins t p) {q : Nat} (hq : q < szA t p) : bA (subT t p (szA t p)) q = bA t (p + q) := by unfold bA; rw [subT_get h.tm.bd.2 hq]
theorem Ins.kid {t : List Nd} {p : Nat} (h : Ins t p) {q : Nat} (hq : q < szA t p) {i : Nat} (hi : i ≤ cnO (opA t (p + q))) : kid t (p + q) i = p + kid (subT t p (szA t p)) q i := (sub_pl h.tm hq i hi).symm
theorem Ins.kid_lt {t : List Nd} {p : Nat} (h : Ins t p) {q : Nat} (hq : q < szA t p) {i : Nat} (hi : i < cnO (opA t (p + q))) : YtgeneoamngfomaaGreatDoor.kid (subT t p (szA t p)) q i < szA t p := by
  have := (kid_any h.sub (p := q) (i := i) (by rw [h.len]; exact hq) (by rw [h.op hq]; exact hi)).1
  rw [h.len] at this; exact this
theorem Ins.vl {t : List Nd} {p : Nat} (h : Ins t p) {k : Nat} (hk : k < szA t p) (hm : mkO (opA t (p + k)) = 1) (fx : Int → Option Rat) : vlA t fx (p + k) = vlA (subT t p (szA t p)) fx k := by
  have h1 := h.tm.bd
  rw [vl_U (num_at h.ok (by omega) hm).1, vl_U (num_at h.sub (n := k) (by rw [h.len]; exact hk) (by rw [h.op hk]; exact hm)).1, sub_U h.tm hk]
def shf (p : Nat) (r : List Td × List Flw × List Wat) : List Td × List Flw × List Wat := (r.1.map fun y => ⟨p + y.p, y.day, y.q⟩, r.2.1, r.2.2)
theorem stp_sub {t : List Nd} {p : Nat} (h : Ins t p) {E : Env} {tu : Int} {x : Td} (hq : x.p < szA t p) (hx : CtA (subT t p (szA t p)) x.p) : stp t E tu ⟨p + x.p, x.day, x.q⟩ = (stp (subT t p (szA t p)) E tu x).map (shf p) := by
  have eo := h.op hq
  have ea := h.a hq
  have eb := h.b hq
  have ek := fun i => h.kid hq (i := i)
  have hp2 : p + x.p < t.length := by have := h.tm.bd; omega
  have em : mkO (opA t (p + x.p)) = 2 := by rw [← eo]; exact hx.mc
  have ev : ∀ i, i < cnO (opA t (p + x.p)) → kdC (ixO (opA t (p + x.p))) i = 1 → ∀ fx, vlA t fx (kid t (p + x.p) i) = vlA (subT t p (szA t p)) fx (kid (subT t p (szA t p)) x.p i) := fun i hi hk fx => by
    have hkd := kid_any h.ok hp2 hi
    rw [ek i (Nat.le_of_lt hi)] at hkd ⊢
    exact h.vl (h.kid_lt hq hi) (hkd.2.1.trans hk) fx
  have ew : ∀ i, i < cnO (opA t (p + x.p)) → ∀ d, askW t E d (kid t (p + x.p) i) = askW (subT t p (szA t p)) E d (kid (subT t p (szA t p)) x.p i) := fun i hi d => by
    unfold askW
    rw [ek i (Nat.le_of_lt hi), sub_ky h.tm (h.kid_lt hq hi)]
  clear hx
  generalize subT t p (szA t p) = T at *
  by_cases c : opA t (p + x.p) = 10
  · rw [stp_one (x := ⟨p + x.p, x.day, x.q⟩) c, stp_one (x := x) (eo.trans c), ea]; simp [shf]
  by_cases c : opA t (p + x.p) = 11
  · rw [stp_give (x := ⟨p + x.p, x.day, x.q⟩) c, stp_give (x := x) (eo.trans c)]
    dsimp only
    rw [ek 0 (by rw [c]; decide)]; simp [shf]
  by_cases c : opA t (p + x.p) = 12
  · rw [stp_and (x := ⟨p + x.p, x.day, x.q⟩) c, stp_and (x := x) (eo.trans c)]
    dsimp only
    rw [ek 0 (by rw [c]; decide), ek 1 (by rw [c]; decide)]; simp [shf]
  by_cases c : opA t (p + x.p) = 13
  · rw [stp_scale (x := ⟨p + x.p, x.day, x.q⟩) c, stp_scale (x := x) (eo.trans c)]
    dsimp only
    rw [ev 0 (by rw [c]; decide) (by rw [c]; decide), ew 0 (by rw [c]; decide), ek 1 (by rw [c]; decide)]
    cases vlA T (E.fx x.day) (kid T x.p 0) with
    | none => simp [shf]
    | some v =>
      cases v with
      | none => simp [shf]
      | some v =>
        dsimp only
        by_cases f : fitsR (x.q * v) = true
        · rw [if_pos f, if_pos f]; simp [shf]
        · rw [if_neg f, if_neg f]; simp [shf]
  by_cases c : opA t (p + x.p) = 14
  · rw [stp_when (x := ⟨p + x.p, x.day, x.q⟩) c, stp_when (x := x) (eo.trans c)]
    dsimp only
    rw [ea, ek 0 (by rw [c]; decide)]
    by_cases f : x.day ≤ aA t (p + x.p)
    · rw [if_pos f, if_pos f]; simp [shf]
    · rw [if_neg f, if_neg f]; simp [shf]
  by_cases c : opA t (p + x.p) = 15
  · rw [stp_cond (x := ⟨p + x.p, x.day, x.q⟩) c, stp_cond (x := x) (eo.trans c)]
    dsimp only
    rw [ev 0 (by rw [c]; decide) (by rw [c]; decide), ev 1 (by rw [c]; decide) (by rw [c]; decide), ew 0 (by rw [c]; decide), ew 1 (by rw [c]; decide)]
    cases vlA T (E.fx x.day) (kid T x.p 0) with
    | none => simp [shf]
    | some v =>
      cases vlA T (E.fx x.day) (kid T x.p 1) with
      | none => simp [shf]
      | some u =>
        cases v with
        | none => simp [shf]
        | some v =>
          cases u with
          | none => simp [shf]
          | some u =>
            dsimp only
            by_cases f : v < u
            · rw [if_pos f, ek 2 (by rw [c]; decide)]; simp [shf]
            · rw [if_neg f, ek 3 (by rw [c]; decide)]; simp [shf]
  by_cases c : opA t (p + x.p) = 16
  · rw [stp_or (x := ⟨p + x.p, x.day, x.q⟩) c, stp_or (x := x) (eo.trans c)]
    dsimp only
    rw [ea, ek 0 (by rw [c]; decide), ek 1 (by rw [c]; decide)]
    by_cases f : E.ch (aA t (p + x.p)) x.day = 1
    · rw [if_pos f, if_pos f]; simp [shf]
    · rw [if_neg f, if_neg f]
      by_cases f : E.ch (aA t (p + x.p)) x.day = 2
      · rw [if_pos f, if_pos f]; simp [shf]
      · rw [if_neg f, if_neg f]; simp [shf]
  by_cases c : opA t (p + x.p) = 17
  · rw [stp_any (x := ⟨p + x.p, x.day, x.q⟩) c, stp_any (x := x) (eo.trans c)]
    dsimp only
    rw [ea, eb, ek 0 (by rw [c]; decide)]
    cases E.fs (aA t (p + x.p)) x.day (min (bA t (p + x.p)) tu) with
    | none => simp [shf]
    | some d => simp [shf]
  have hop := ct_op em
  rw [stp_zero (x := ⟨p + x.p, x.day, x.q⟩) (by dsimp only; omega), stp_zero (x := x) (by omega)]; simp [shf]
theorem dn_sub {t : List Nd} {p : Nat} (h : Ins t p) {E : Env} (hE : E.Ok) {tu : Int} (hto : tu ≤ 73048) : ∀ (n : Nat) (x : Td), x.p < szA t p → CtA (subT t p (szA t p)) x.p → szA t (p + x.p) ≤ n → dn t E tu ⟨p + x.p, x.day, x.q⟩ = dn (subT t p (szA t p)) E tu x
  | 0, x, hq, hx, hn => by have := (tm_nest h.tm hq).2.1.bd; omega
  | n + 1, x, hq, hx, hn => by
    have hc : CtA t (p + x.p) := ⟨by have := h.tm.bd; omega, by rw [← h.op hq]; exact hx.mc⟩
    by_cases hl : tu < x.day
    · rw [dn_late (x := ⟨p + x.p, x.day, x.q⟩) hl, dn_late (x := x) hl]
    · rw [dn_eq h.ok hE hto (x := ⟨p + x.p, x.day, x.q⟩) hc hl, dn_eq h.sub hE hto hx hl, stp_sub h hq hx]
      cases hs : stp (subT t p (szA t p)) E tu x with
      | none => rfl
      | some r =>
        obtain ⟨ts, fl, ws⟩ := r
        have hk := stp_kids h.sub hE hto hx hs
        have hz := (tm_nest h.tm hq).2.2.1
        have hb := (tm_nest h.tm hq).2.2.2
        show cat _ (cats ((ts.map fun y => (⟨p + y.p, y.day, y.q⟩ : Td)).map (dn t E tu))) = _
        rw [List.map_map]
        have e : ts.map (dn t E tu ∘ fun y => (⟨p + y.p, y.day, y.q⟩ : Td)) = ts.map (dn (subT t p (szA t p)) E tu) := List.map_congr_left fun y hy => by
          have h1 := szs_mem (t := subT t p (szA t p)) hy
          have h2 := hk.sz
          have h3 := (hk.ct y hy).lt
          rw [h.len] at h3
          have h4 := (tm_nest h.tm h3).2.2.1
          exact dn_sub h hE hto n y h3 (hk.ct y hy) (by omega)
        rw [e]; rfl
termination_by n => n
/-- A contract that stands within another one pays what it does. -/
theorem dn_in {t : List Nd} (h : (ofK t).2 = 0) {p : Nat} (hp : CtA t p) {E : Env} (hE : E.Ok) {tu : Int} (hto : tu ≤ 73048) (d : Int) (q : Rat) : dn t E tu ⟨p, d, q⟩ = dn (subT t p (szA t p)) E tu ⟨0, d, q⟩ := by
  have hi : Ins t p := ⟨h, hp⟩
  have := dn_sub hi hE hto (szA t (p + 0)) ⟨0, d, q⟩ (by have := ct_pos h hp; dsimp only; omega) ⟨by rw [hi.len]; exact ct_pos h hp, by rw [hi.op (ct_pos h hp), Nat.add_zero]; exact hp.mc⟩ (Nat.le_refl _)
  exact this

end Go.Proofs.YtgeneoamngfomaaGreatDoor

namespace Go.Proofs.YtgeneoamngfomaaGreatDoor
open Go.RowKit Go.Lib
set_option linter.unusedVariables false
set_option linter.unusedSimpArgs false

end Go.Proofs.YtgeneoamngfomaaGreatDoor

namespace Go.Proofs.YtgeneoamngfomaaGreatDoor
open Go.RowKit Go.Lib Go.Shelf Go.Maps
set_option linter.unusedVariables false
set_option linter.unusedSimpArgs false

theorem ofK_mk {t : List Nd} (h : (ofK t).2 = 0) : ofK t = (mkO (opA t 0), 0) := by
  obtain ⟨h1, h2, h3, h4, h5⟩ := ofK_zero h
  exact ofK_yes h1 h2 h3 h4 h5
end Go.Proofs.YtgeneoamngfomaaGreatDoor

namespace Go.Proofs.YtgeneoamngfomaaGreatDoor
open Go.RowKit Go.Lib Go.Shelf Go.Maps
set_option linter.unusedVariables false
set_option linter.unusedSimpArgs false

theorem RowX.head {α : Type} [Inhabited α] {E : α → List Value} {n : Nat} {w : World} {b o cap : Nat} {m : List α} (hc : m.length ≤ cap) (hm : cap ≤ 9223372036854775807) (h : ∀ j, j < m.length → ∀ i c, i < n → (E (m.getD j default))[i]? = some c → w.cell? ⟨b, o + j * n + i, none⟩ = some c) {k : Nat} (hk : k ≤ m.length) :
    RowX E n w (.slice (some ⟨b, o, none⟩) k cap) (m.take k) := by
  have hl : (m.take k).length = k := by rw [List.length_take]; omega
  by_cases h0 : k = 0
  · subst h0; exact .inl ⟨by simp, _, _, rfl⟩
  · refine .inr ⟨by omega, b, o, cap, by rw [hl], by omega, hm, fun j hj i c hi he => h j (by omega) i c hi ?_⟩
    rw [← he, List.getD_eq_getElem?_getD, List.getD_eq_getElem?_getD, List.getElem?_take_of_lt (by omega)]
theorem RowX.tail {α : Type} [Inhabited α] {E : α → List Value} {n : Nat} {w : World} {b o cap : Nat} {m : List α} (hc : m.length ≤ cap) (hm : cap ≤ 9223372036854775807) (h : ∀ j, j < m.length → ∀ i c, i < n → (E (m.getD j default))[i]? = some c → w.cell? ⟨b, o + j * n + i, none⟩ = some c) {k : Nat} (hk : k ≤ m.length) :
    RowX E n w (.slice (some ⟨b, o + k * n, none⟩) (m.length - k) (cap - k)) (m.drop k) := by
  have hl : (m.drop k).length = m.length - k := List.length_drop ..
  by_cases h0 : m.length - k = 0
  · rw [h0]; exact .inl ⟨List.length_eq_zero_iff.1 (by omega), _, _, rfl⟩
  · refine .inr ⟨by omega, b, o + k * n, cap - k, by rw [hl], by omega, by omega, fun j hj i c hi he => ?_⟩
    have := h (k + j) (by omega) i c hi (by rw [← he, List.getD_eq_getElem?_getD, List.getD_eq_getElem?_getD, List.getElem?_drop])
    rw [Nat.add_mul, ← Nat.add_assoc] at this
    exact this
end Go.Proofs.YtgeneoamngfomaaGreatDoor

namespace Go.Proofs.YtgeneoamngfomaaGreatDoor
open Go.RowKit Go.Lib Go.Shelf Go.Maps
set_option linter.unusedVariables false
set_option linter.unusedSimpArgs false

end Go.Proofs.YtgeneoamngfomaaGreatDoor

/-
  What a contract within another one does: no program.
-/
import Derived.Test.YtjafbfepdmgjnaaGreatDoorEA
import Derived.Test.YtjafbfepdmgjnaaGreatDoorJr
import Derived.Test.YtjafbfepdmgjnaaGreatDoorEoA
import Derived.Deep.RegionHeld3
import Derived.Test.YtjafbfepdmgjnaaGreatDoorVlK
namespace Go.Proofs.YtjafbfepdmgjnaaGreatDoor
open Go.RowKit Go.Lib
set_option linter.unusedVariables false

theorem bfF_asym {a b : Flw} (h : bfF a b) : ¬ bfF b a := fun h' => bfF_irr a (bfF_trans h h')
theorem putF_cons (a : Flw) (l : List Flw) (x : Flw) : putF (a :: l) x = if bfF x a then x :: a :: l else a :: putF l x := by
  unfold putF posF
  by_cases h : bfF x a
  · rw [if_pos h, List.takeWhile_cons_of_neg (by simp [h])]; rfl
  · rw [if_neg h, List.takeWhile_cons_of_pos (by simp [h])]; rfl
theorem putF_srt {l : List Flw} (x : Flw) (h : SrF l) : SrF (putF l x) := by
  induction l with
  | nil => exact List.pairwise_singleton _ _
  | cons a l ih =>
    obtain ⟨h1, h2⟩ := List.pairwise_cons.1 h
    rw [putF_cons]
    by_cases hx : bfF x a
    · rw [if_pos hx]
      refine List.pairwise_cons.2 ⟨fun b hb => ?_, h⟩
      rcases List.mem_cons.1 hb with rfl | hb
      · exact bfF_asym hx
      · intro hbx
        exact h1 b hb (bfF_trans hbx hx)
    · rw [if_neg hx]
      refine List.pairwise_cons.2 ⟨fun b hb => ?_, ih h2⟩
      rcases List.mem_cons.1 ((putF_perm l x).mem_iff.1 hb) with rfl | hb
      · exact hx
      · exact h1 b hb
theorem cat_none (x : Otc) : cat x none = none := by
  match x with
  | none => rfl
  | some (a, b) => rfl
end Go.Proofs.YtjafbfepdmgjnaaGreatDoor

namespace Go.Proofs.YtjafbfepdmgjnaaGreatDoor
open Go.RowKit Go.Lib
set_option linter.unusedVariables false

end Go.Proofs.YtjafbfepdmgjnaaGreatDoor

namespace Go.Proofs.YtjafbfepdmgjnaaGreatDoor
open Go.RowKit Go.Lib
set_option linter.unusedVariables false
set_option linter.unusedSimpArgs false

end Go.Proofs.YtjafbfepdmgjnaaGreatDoor

namespace Go.Proofs.YtjafbfepdmgjnaaGreatDoor
open Go.RowKit Go.Lib Go.Shelf Go.Maps
set_option linter.unusedVariables false
set_option linter.unusedSimpArgs false

theorem take_flw {L : List Flw} {i : Nat} (h : i < L.length) : L.take (i + 1) = L.take i ++ [L.getD i default] := by
  rw [List.take_add_one, List.getElem?_eq_getElem h, List.getD_eq_getElem?_getD, List.getElem?_eq_getElem h]; rfl
end Go.Proofs.YtjafbfepdmgjnaaGreatDoor

namespace Go.Proofs.YtjafbfepdmgjnaaGreatDoor
open Go.RowKit Go.Lib
set_option linter.unusedVariables false
set_option linter.unusedSimpArgs false

theorem sub_sub {t : List Nd} {p n q m : Nat} (h : q + m ≤ n) : subT (subT t p n) q m = subT t (p + q) m := by
  unfold subT
  rw [List.drop_take, List.drop_drop, List.take_take, Nat.min_eq_left (by omega)]
theorem sub_U {t : List Nd} {p : Nat} (h : TmA t p) {q : Nat} (hq : q < szA t p) : subT (subT t p (szA t p)) q (szA (subT t p (szA t p)) q) = subT t (p + q) (szA t (p + q)) := by
  obtain ⟨h1, h2, h3, h4⟩ := tm_nest h hq
  rw [← h3, sub_sub (by omega)]
theorem sub_ky {t : List Nd} {p : Nat} (h : TmA t p) {q : Nat} (hq : q < szA t p) : kyU (subT t p (szA t p)) q = kyU t (p + q) := by
  unfold kyU; rw [sub_U h hq]
theorem vl_U {t : List Nd} {fx : Int → Option Rat} {k : Nat} (h : NmA t k) : vlA t fx k = vlA (subT t k (szA t k)) fx 0 := by
  have := vl_sub (fx := fx) h (szA t (k + 0)) 0 (by have := h.tm.bd; omega) (Nat.le_refl _)
  rw [Nat.add_zero] at this
  exact this.symm
/-- The terms below a contract within another one stand as they stand in it. -/
structure Ins (t : List Nd) (p : Nat) : Prop where
  ok : (ofK t).2 = 0
  ct : CtA t p
theorem Ins.tm {t : List Nd} {p : Nat} (h : Ins t p) : TmA t p := ok_tm h.ok h.ct.lt
theorem Ins.sub {t : List Nd} {p : Nat} (h : Ins t p) : (ofK (subT t p (szA t p))).2 = 0 := by rw [sub_of h.ok h.ct.lt]
theorem Ins.len {t : List Nd} {p : Nat} (h : Ins t p) : (subT t p (szA t p)).length = szA t p := subT_len h.tm.bd.2
theorem Ins.op {t : List Nd} {p : Nat} (h : Ins t p) {q : Nat} (hq : q < szA t p) : opA (subT t p (szA t p)) q = opA t (p + q) := subT_op h.tm.bd.2 hq
theorem Ins.a {t : List Nd} {p : Nat} (h : Ins t p) {q : Nat} (hq : q < szA t p) : aA (subT t p (szA t p)) q = aA t (p + q) := by unfold aA; rw [subT_get h.tm.bd.2 hq]
theorem Ins.b {t : List Nd} {p : Nat} (h : Ins t p) {q : Nat} (hq : q < szA t p) : bA (subT t p (szA t p)) q = bA t (p + q) := by unfold bA; rw [subT_get h.tm.bd.2 hq]
theorem Ins.kid {t : List Nd} {p : Nat} (h : Ins t p) {q : Nat} (hq : q < szA t p) {i : Nat} (hi : i ≤ cnO (opA t (p + q))) : kid t (p + q) i = p + kid (subT t p (szA t p)) q i := (sub_pl h.tm hq i hi).symm
theorem Ins.kid_lt {t : List Nd} {p : Nat} (h : Ins t p) {q : Nat} (hq : q < szA t p) {i : Nat} (hi : i < cnO (opA t (p + q))) : YtjafbfepdmgjnaaGreatDoor.kid (subT t p (szA t p)) q i < szA t p := by
  have := (kid_any h.sub (p := q) (i := i) (by rw [h.len]; exact hq) (by rw [h.op hq]; exact hi)).1
  rw [h.len] at this; exact this
theorem Ins.vl {t : List Nd} {p : Nat} (h : Ins t p) {k : Nat} (hk : k < szA t p) (hm : mkO (opA t (p + k)) = 1) (fx : Int → Option Rat) : vlA t fx (p + k) = vlA (subT t p (szA t p)) fx k := by
  have h1 := h.tm.bd
  rw [vl_U (num_at h.ok (by omega) hm).1, vl_U (num_at h.sub (n := k) (by rw [h.len]; exact hk) (by rw [h.op hk]; exact hm)).1, sub_U h.tm hk]
def shf (p : Nat) (r : List Td × List Flw × List Wat) : List Td × List Flw × List Wat := (r.1.map fun y => ⟨p + y.p, y.day, y.q⟩, r.2.1, r.2.2)
theorem stp_sub {t : List Nd} {p : Nat} (h : Ins t p) {E : Env} {tu : Int} {x : Td} (hq : x.p < szA t p) (hx : CtA (subT t p (szA t p)) x.p) : stp t E tu ⟨p + x.p, x.day, x.q⟩ = (stp (subT t p (szA t p)) E tu x).map (shf p) := by
  have eo := h.op hq
  have ea := h.a hq
  have eb := h.b hq
  have ek := fun i => h.kid hq (i := i)
  have hp2 : p + x.p < t.length := by have := h.tm.bd; omega
  have em : mkO (opA t (p + x.p)) = 2 := by rw [← eo]; exact hx.mc
  have ev : ∀ i, i < cnO (opA t (p + x.p)) → kdC (ixO (opA t (p + x.p))) i = 1 → ∀ fx, vlA t fx (kid t (p + x.p) i) = vlA (subT t p (szA t p)) fx (kid (subT t p (szA t p)) x.p i) := fun i hi hk fx => by
    have hkd := kid_any h.ok hp2 hi
    rw [ek i (Nat.le_of_lt hi)] at hkd ⊢
    exact h.vl (h.kid_lt hq hi) (hkd.2.1.trans hk) fx
  have ew : ∀ i, i < cnO (opA t (p + x.p)) → ∀ d, askW t E d (kid t (p + x.p) i) = askW (subT t p (szA t p)) E d (kid (subT t p (szA t p)) x.p i) := fun i hi d => by
    unfold askW
    rw [ek i (Nat.le_of_lt hi), sub_ky h.tm (h.kid_lt hq hi)]
  clear hx
  generalize subT t p (szA t p) = T at *
  by_cases c : opA t (p + x.p) = 10
  · rw [stp_one (x := ⟨p + x.p, x.day, x.q⟩) c, stp_one (x := x) (eo.trans c), ea]; simp [shf]
  by_cases c : opA t (p + x.p) = 11
  · rw [stp_give (x := ⟨p + x.p, x.day, x.q⟩) c, stp_give (x := x) (eo.trans c)]
    dsimp only
    rw [ek 0 (by rw [c]; decide)]; simp [shf]
  by_cases c : opA t (p + x.p) = 12
  · rw [stp_and (x := ⟨p + x.p, x.day, x.q⟩) c, stp_and (x := x) (eo.trans c)]
    dsimp only
    rw [ek 0 (by rw [c]; decide), ek 1 (by rw [c]; decide)]; simp [shf]
  by_cases c : opA t (p + x.p) = 13
  · rw [stp_scale (x := ⟨p + x.p, x.day, x.q⟩) c, stp_scale (x := x) (eo.trans c)]
    dsimp only
    rw [ev 0 (by rw [c]; decide) (by rw [c]; decide), ew 0 (by rw [c]; decide), ek 1 (by rw [c]; decide)]
    cases vlA T (E.fx x.day) (kid T x.p 0) with
    | none => simp [shf]
    | some v =>
      cases v with
      | none => simp [shf]
      | some v =>
        dsimp only
        by_cases f : fitsR (x.q * v) = true
        · rw [if_pos f, if_pos f]; simp [shf]
        · rw [if_neg f, if_neg f]; simp [shf]
  by_cases c : opA t (p + x.p) = 14
  · rw [stp_when (x := ⟨p + x.p, x.day, x.q⟩) c, stp_when (x := x) (eo.trans c)]
    dsimp only
    rw [ea, ek 0 (by rw [c]; decide)]
    by_cases f : x.day ≤ aA t (p + x.p)
    · rw [if_pos f, if_pos f]; simp [shf]
    · rw [if_neg f, if_neg f]; simp [shf]
  by_cases c : opA t (p + x.p) = 15
  · rw [stp_cond (x := ⟨p + x.p, x.day, x.q⟩) c, stp_cond (x := x) (eo.trans c)]
    dsimp only
    rw [ev 0 (by rw [c]; decide) (by rw [c]; decide), ev 1 (by rw [c]; decide) (by rw [c]; decide), ew 0 (by rw [c]; decide), ew 1 (by rw [c]; decide)]
    cases vlA T (E.fx x.day) (kid T x.p 0) with
    | none => simp [shf]
    | some v =>
      cases vlA T (E.fx x.day) (kid T x.p 1) with
      | none => simp [shf]
      | some u =>
        cases v with
        | none => simp [shf]
        | some v =>
          cases u with
          | none => simp [shf]
          | some u =>
            dsimp only
            by_cases f : v < u
            · rw [if_pos f, ek 2 (by rw [c]; decide)]; simp [shf]
            · rw [if_neg f, ek 3 (by rw [c]; decide)]; simp [shf]
  by_cases c : opA t (p + x.p) = 16
  · rw [stp_or (x := ⟨p + x.p, x.day, x.q⟩) c, stp_or (x := x) (eo.trans c)]
    dsimp only
    rw [ea, ek 0 (by rw [c]; decide), ek 1 (by rw [c]; decide)]
    by_cases f : E.ch (aA t (p + x.p)) x.day = 1
    · rw [if_pos f, if_pos f]; simp [shf]
    · rw [if_neg f, if_neg f]
      by_cases f : E.ch (aA t (p + x.p)) x.day = 2
      · rw [if_pos f, if_pos f]; simp [shf]
      · rw [if_neg f, if_neg f]; simp [shf]
  by_cases c : opA t (p + x.p) = 17
  · rw [stp_any (x := ⟨p + x.p, x.day, x.q⟩) c, stp_any (x := x) (eo.trans c)]
    dsimp only
    rw [ea, eb, ek 0 (by rw [c]; decide)]
    cases E.fs (aA t (p + x.p)) x.day (min (bA t (p + x.p)) tu) with
    | none => simp [shf]
    | some d => simp [shf]
  have hop := ct_op em
  rw [stp_zero (x := ⟨p + x.p, x.day, x.q⟩) (by dsimp only; omega), stp_zero (x := x) (by omega)]; simp [shf]
theorem dn_sub {t : List Nd} {p : Nat} (h : Ins t p) {E : Env} (hE : E.Ok) {tu : Int} (hto : tu ≤ 73048) : ∀ (n : Nat) (x : Td), x.p < szA t p → CtA (subT t p (szA t p)) x.p → szA t (p + x.p) ≤ n → dn t E tu ⟨p + x.p, x.day, x.q⟩ = dn (subT t p (szA t p)) E tu x
  | 0, x, hq, hx, hn => by have := (tm_nest h.tm hq).2.1.bd; omega
  | n + 1, x, hq, hx, hn => by
    have hc : CtA t (p + x.p) := ⟨by have := h.tm.bd; omega, by rw [← h.op hq]; exact hx.mc⟩
    by_cases hl : tu < x.day
    · rw [dn_late (x := ⟨p + x.p, x.day, x.q⟩) hl, dn_late (x := x) hl]
    · rw [dn_eq h.ok hE hto (x := ⟨p + x.p, x.day, x.q⟩) hc hl, dn_eq h.sub hE hto hx hl, stp_sub h hq hx]
      cases hs : stp (subT t p (szA t p)) E tu x with
      | none => rfl
      | some r =>
        obtain ⟨ts, fl, ws⟩ := r
        have hk := stp_kids h.sub hE hto hx hs
        have hz := (tm_nest h.tm hq).2.2.1
        have hb := (tm_nest h.tm hq).2.2.2
        show cat _ (cats ((ts.map fun y => (⟨p + y.p, y.day, y.q⟩ : Td)).map (dn t E tu))) = _
        rw [List.map_map]
        have e : ts.map (dn t E tu ∘ fun y => (⟨p + y.p, y.day, y.q⟩ : Td)) = ts.map (dn (subT t p (szA t p)) E tu) := List.map_congr_left fun y hy => by
          have h1 := szs_mem (t := subT t p (szA t p)) hy
          have h2 := hk.sz
          have h3 := (hk.ct y hy).lt
          rw [h.len] at h3
          have h4 := (tm_nest h.tm h3).2.2.1
          exact dn_sub h hE hto n y h3 (hk.ct y hy) (by omega)
        rw [e]; rfl
termination_by n => n
/-- A contract that stands within another one pays what it does. -/
theorem dn_in {t : List Nd} (h : (ofK t).2 = 0) {p : Nat} (hp : CtA t p) {E : Env} (hE : E.Ok) {tu : Int} (hto : tu ≤ 73048) (d : Int) (q : Rat) : dn t E tu ⟨p, d, q⟩ = dn (subT t p (szA t p)) E tu ⟨0, d, q⟩ := by
  have hi : Ins t p := ⟨h, hp⟩
  have := dn_sub hi hE hto (szA t (p + 0)) ⟨0, d, q⟩ (by have := ct_pos h hp; dsimp only; omega) ⟨by rw [hi.len]; exact ct_pos h hp, by rw [hi.op (ct_pos h hp), Nat.add_zero]; exact hp.mc⟩ (Nat.le_refl _)
  exact this

end Go.Proofs.YtjafbfepdmgjnaaGreatDoor

namespace Go.Proofs.YtjafbfepdmgjnaaGreatDoor
open Go.RowKit Go.Lib
set_option linter.unusedVariables false
set_option linter.unusedSimpArgs false

end Go.Proofs.YtjafbfepdmgjnaaGreatDoor

namespace Go.Proofs.YtjafbfepdmgjnaaGreatDoor
open Go.RowKit Go.Lib Go.Shelf Go.Maps
set_option linter.unusedVariables false
set_option linter.unusedSimpArgs false

theorem ofK_mk {t : List Nd} (h : (ofK t).2 = 0) : ofK t = (mkO (opA t 0), 0) := by
  obtain ⟨h1, h2, h3, h4, h5⟩ := ofK_zero h
  exact ofK_yes h1 h2 h3 h4 h5
theorem chk_of_ct {t : List Nd} (h : (ofK t).2 = 0) (hc : CtA t 0) : chkK t = 0 := by
  unfold chkK
  rw [ofK_mk h, hc.mc]
  rfl
end Go.Proofs.YtjafbfepdmgjnaaGreatDoor

namespace Go.Proofs.YtjafbfepdmgjnaaGreatDoor
open Go.RowKit Go.Lib Go.Shelf Go.Maps
set_option linter.unusedVariables false
set_option linter.unusedSimpArgs false

theorem pos_step : ∀ (l : List Flw) (x : Flw) (k : Nat), k ≤ posF l x → k < l.length → (bfF x (l.getD k default) → posF l x = k) ∧ (¬ bfF x (l.getD k default) → k + 1 ≤ posF l x)
  | [], x, k, _, h => absurd h (Nat.not_lt_zero _)
  | a :: l, x, k, h, hl => by
    by_cases c : bfF x a
    · have e : posF (a :: l) x = 0 := by
        unfold posF
        rw [List.takeWhile_cons_of_neg (by simp [c])]; rfl
      have : k = 0 := by omega
      subst this
      exact ⟨fun _ => e, fun n => absurd c n⟩
    · have e : posF (a :: l) x = posF l x + 1 := by
        unfold posF
        rw [List.takeWhile_cons_of_pos (by simp [c])]; rfl
      cases k with
      | zero => exact ⟨fun y => absurd y c, fun _ => by omega⟩
      | succ k =>
        have ih := pos_step l x k (by omega) (by simpa using hl)
        rw [e]
        exact ⟨fun y => by rw [ih.1 y], fun y => by have := ih.2 y; omega⟩
theorem pos_len (l : List Flw) (x : Flw) : posF l x ≤ l.length := (List.takeWhile_sublist _).length_le
theorem RowX.head {α : Type} [Inhabited α] {E : α → List Value} {n : Nat} {w : World} {b o cap : Nat} {m : List α} (hc : m.length ≤ cap) (hm : cap ≤ 9223372036854775807) (h : ∀ j, j < m.length → ∀ i c, i < n → (E (m.getD j default))[i]? = some c → w.cell? ⟨b, o + j * n + i, none⟩ = some c) {k : Nat} (hk : k ≤ m.length) :
    RowX E n w (.slice (some ⟨b, o, none⟩) k cap) (m.take k) := by
  have hl : (m.take k).length = k := by rw [List.length_take]; omega
  by_cases h0 : k = 0
  · subst h0; exact .inl ⟨by simp, _, _, rfl⟩
  · refine .inr ⟨by omega, b, o, cap, by rw [hl], by omega, hm, fun j hj i c hi he => h j (by omega) i c hi ?_⟩
    rw [← he, List.getD_eq_getElem?_getD, List.getD_eq_getElem?_getD, List.getElem?_take_of_lt (by omega)]
theorem RowX.tail {α : Type} [Inhabited α] {E : α → List Value} {n : Nat} {w : World} {b o cap : Nat} {m : List α} (hc : m.length ≤ cap) (hm : cap ≤ 9223372036854775807) (h : ∀ j, j < m.length → ∀ i c, i < n → (E (m.getD j default))[i]? = some c → w.cell? ⟨b, o + j * n + i, none⟩ = some c) {k : Nat} (hk : k ≤ m.length) :
    RowX E n w (.slice (some ⟨b, o + k * n, none⟩) (m.length - k) (cap - k)) (m.drop k) := by
  have hl : (m.drop k).length = m.length - k := List.length_drop ..
  by_cases h0 : m.length - k = 0
  · rw [h0]; exact .inl ⟨List.length_eq_zero_iff.1 (by omega), _, _, rfl⟩
  · refine .inr ⟨by omega, b, o + k * n, cap - k, by rw [hl], by omega, by omega, fun j hj i c hi he => ?_⟩
    have := h (k + j) (by omega) i c hi (by rw [← he, List.getD_eq_getElem?_getD, List.getD_eq_getElem?_getD, List.getElem?_drop])
    rw [Nat.add_mul, ← Nat.add_assoc] at this
    exact this
set_option maxRecDepth 100000 in
theorem ahead_any (a x : Flw) (w : World) : Calls Tryz.prog 54 #[.agg #[.int .i64 a.d, .int .i64 a.c, .int .i64 a.n], .agg #[.int .i64 x.d, .int .i64 x.c, .int .i64 x.n]] w fun e w' => e = .returned (.bool (!decide (bfF x a))) ∧ Below w.heap.size w w' := by
  obtain ⟨ad, ac, an⟩ := a
  obtain ⟨xd, xc, xn⟩ := x
  dsimp only
  have HB := Lib.hid (onF (newF w (.cells #[.int .i64 ad, .int .i64 ac, .int .i64 an] 50)) (newF _ (.cells #[.int .i64 xd, .int .i64 xc, .int .i64 xn] 50)))
  have ka : ∀ k v, (#[.int .i64 ad, .int .i64 ac, .int .i64 an] : Array Value)[k]? = some v → ((w.alloc (.cells #[.int .i64 ad, .int .i64 ac, .int .i64 an] 50)).alloc (.cells #[.int .i64 xd, .int .i64 xc, .int .i64 xn] 50)).cell? ⟨w.heap.size, k, none⟩ = some v := fun k v hv => keepF (newF _ _) (by rw [World.cell?_alloc_at _ _ _ _ rfl]; exact hv)
  have kx : ∀ k v, (#[.int .i64 xd, .int .i64 xc, .int .i64 xn] : Array Value)[k]? = some v → ((w.alloc (.cells #[.int .i64 ad, .int .i64 ac, .int .i64 an] 50)).alloc (.cells #[.int .i64 xd, .int .i64 xc, .int .i64 xn] 50)).cell? ⟨w.heap.size + 1, k, none⟩ = some v := fun k v hv => by rw [World.cell?_alloc_at _ _ _ _ (by simp)]; exact hv
  have a0 := ka 0 _ rfl
  have a1 := ka 1 _ rfl
  have a2 := ka 2 _ rfl
  have x0 := kx 0 _ rfl
  have x1 := kx 1 _ rfl
  have x2 := kx 2 _ rfl
  clear ka kx
  obtain ⟨r, hr⟩ : ∃ r, r = (!decide (bfF ⟨xd, xc, xn⟩ ⟨ad, ac, an⟩)) := ⟨_, rfl⟩
  rw [← hr]
  by_cases h1 : ad = xd
  · by_cases h2 : ac = xc
    · have e : r = decide (an ≤ xn) := by
        rw [hr, ← decide_not]
        apply decide_eq_decide.2
        unfold bfF; dsimp only; omega
      clear hr
      subst h1 h2
      by_cases h3 : an ≤ xn
      · rw [decide_eq_true h3] at e
        subst e
        go_enter Tryz.func54, Tryz.ntmps54
        go_wp2_with fail
        go_ret
        exact ⟨rfl, HB.out⟩
      · rw [decide_eq_false h3] at e
        subst e
        go_enter Tryz.func54, Tryz.ntmps54
        go_wp2_with fail
        go_ret
        exact ⟨rfl, HB.out⟩
    · have e : r = decide (ac < xc) := by
        rw [hr, ← decide_not]
        apply decide_eq_decide.2
        unfold bfF; dsimp only; omega
      have h2' : (ac != xc) = true := bne_iff_ne.2 h2
      have h2'' : (ac == xc) = false := beq_false_of_ne h2
      clear hr
      subst h1
      by_cases h3 : ac < xc
      · rw [decide_eq_true h3] at e
        subst e
        go_enter Tryz.func54, Tryz.ntmps54
        go_wp2_with fail
        go_ret
        exact ⟨rfl, HB.out⟩
      · rw [decide_eq_false h3] at e
        subst e
        go_enter Tryz.func54, Tryz.ntmps54
        go_wp2_with fail
        go_ret
        exact ⟨rfl, HB.out⟩
  · have e : r = decide (ad < xd) := by
      rw [hr, ← decide_not]
      apply decide_eq_decide.2
      unfold bfF; dsimp only; omega
    have h1' : (ad != xd) = true := bne_iff_ne.2 h1
    have h1'' : (ad == xd) = false := beq_false_of_ne h1
    clear hr
    by_cases h3 : ad < xd
    · rw [decide_eq_true h3] at e
      subst e
      go_enter Tryz.func54, Tryz.ntmps54
      go_wp2_with fail
      go_ret
      exact ⟨rfl, HB.out⟩
    · rw [decide_eq_false h3] at e
      subst e
      go_enter Tryz.func54, Tryz.ntmps54
      go_wp2_with fail
      go_ret
      exact ⟨rfl, HB.out⟩

set_option maxRecDepth 100000 in
set_option maxHeartbeats 4000000 in
theorem put9_any (w : World) (l : List Flw) (hl : l.length ≤ 1000) (v : Value) (h : RowX flL 3 w v l) (x : Flw) :
    Calls Tryz.prog 20 #[v, .agg #[.int .i64 x.d, .int .i64 x.c, .int .i64 x.n]] w fun e w' => ∃ v', e = .returned v' ∧ OwnX flL 3 50 w' w.heap.size v' (putF l x) ∧ Below w.heap.size w w' := by
  obtain ⟨va, vc, rfl⟩ := h.slice
  have hb0 := newF w (.cells #[.int .i64 x.d, .int .i64 x.c, .int .i64 x.n] 50)
  have kx : ∀ k v, (#[.int .i64 x.d, .int .i64 x.c, .int .i64 x.n] : Array Value)[k]? = some v → (w.alloc (.cells #[.int .i64 x.d, .int .i64 x.c, .int .i64 x.n] 50)).cell? ⟨w.heap.size, k, none⟩ = some v := fun k v hv => by rw [World.cell?_alloc_at _ _ _ _ rfl]; exact hv
  have HK := Lib.hid (And.intro (kx 0 _ rfl) (And.intro (kx 1 _ rfl) (kx 2 _ rfl)))
  have HB0 := Lib.hid hb0
  have HS := Lib.hid (h.keep hb0)
  have HAh := Lib.hid (fun (a : Flw) (w' : World) => ahead_any a x w')
  have HPs := Lib.hid (pos_step l x)
  have HPl := Lib.hid (pos_len l x)
  have HPu : Hid (putF l x = l.take (posF l x) ++ x :: l.drop (posF l x)) := Lib.hid rfl
  have HLx : Hid (flL x = [.int .i64 x.d, .int .i64 x.c, .int .i64 x.n]) := Lib.hid rfl
  have HLe := Lib.hid hl
  clear hb0 kx h
  go_enter Tryz.func20, Tryz.ntmps20
  go_wp2_with fail
  generalize w.alloc (.cells #[.int .i64 x.d, .int .i64 x.c, .int .i64 x.n] 50) = w0 at *
  go_loopw [5] (fun vi wx => ∃ k : Nat, k ≤ l.length ∧ vi = .int .i64 (k : Nat) ∧ k ≤ posF l x ∧ Below w0.heap.size w0 wx) (fun vi _ => l.length - (RowKit.intOf vi).toNat)
  case atStart => exact ⟨0, Nat.zero_le _, rfl, Nat.zero_le _, Below.refl _ _⟩
  case round =>
    obtain ⟨k, hk, rfl, hp, hb⟩ := hrel
    have HB := Lib.hid hb
    have HP := Lib.hid hp
    have x0 := keepF hb HK.out.1
    have x1 := keepF hb HK.out.2.1
    have x2 := keepF hb HK.out.2.2
    by_cases hlt : k < l.length
    · have p0 : (0 : Int) ≤ (k : Int) := by omega
      have p1 : (k : Int) < (l.length : Int) := by omega
      have hd1 : decide ((k : Int) < (l.length : Int)) = true := decide_eq_true p1
      obtain ⟨g, o, cap, hv, hc1, hc2, hT⟩ : ∃ g o cap, Value.slice va l.length vc = .slice (some ⟨g, o, none⟩) l.length cap ∧ l.length ≤ cap ∧ cap ≤ 9223372036854775807 ∧ ∀ j, j < l.length → ∀ i c, i < 3 → (flL (l.getD j default))[i]? = some c → w0.cell? ⟨g, o + j * 3 + i, none⟩ = some c := by
        rcases HS.out with ⟨e, _⟩ | ⟨_, g, o, cap, h1, h2, h3, h4⟩
        · rw [e] at hlt; exact absurd hlt (Nat.not_lt_zero _)
        · exact ⟨g, o, cap, h1, h2, h3, h4⟩
      injection hv with hv1 _ hv3
      subst hv1 hv3
      have k0 : wr.cell? ⟨g, o + k * 3, none⟩ = some (.int .i64 (l.getD k default).d) := keepF hb (hT k hlt 0 _ (by omega) rfl)
      have k1 : wr.cell? ⟨g, o + k * 3 + 1, none⟩ = some (.int .i64 (l.getD k default).c) := keepF hb (hT k hlt 1 _ (by omega) rfl)
      have k2 : wr.cell? ⟨g, o + k * 3 + 2, none⟩ = some (.int .i64 (l.getD k default).n) := keepF hb (hT k hlt 2 _ (by omega) rfl)
      have HPk := Lib.hid (HPs.out k hp hlt)
      have HLt := Lib.hid hlt
      have hkl : k ≤ l.length := by omega
      have HRw := Lib.hid (fun (wx : World) (hb : Below w0.heap.size w0 wx) => And.intro (RowX.head (E := flL) (n := 3) hc1 hc2 (fun j hj i c hi he => keepF hb (hT j hj i c hi he)) hkl) (RowX.tail (E := flL) (n := 3) hc1 hc2 (fun j hj i c hi he => keepF hb (hT j hj i c hi he)) hkl))
      have HA := Lib.hid (HAh.out (l.getD k default))
      generalize l.getD k default = y at *
      have HBd : Hid (Below w0.heap.size w0 wr.drew) := Lib.hid (Below.drew hb)
      have HBy := Lib.hid (HA.out wr.drew)
      obtain ⟨r, hr⟩ : ∃ r, r = (!decide (bfF x y)) := ⟨_, rfl⟩
      rw [← hr] at HBy
      have HR := Lib.hid hr
      clear hlt hT hb hp hr
      have k0 : wr.drew.cell? ⟨g, o + k * 3, none⟩ = some (.int .i64 y.d) := k0
      have k1 : wr.drew.cell? ⟨g, o + k * 3 + 1, none⟩ = some (.int .i64 y.c) := k1
      have k2 : wr.drew.cell? ⟨g, o + k * 3 + 2, none⟩ = some (.int .i64 y.n) := k2
      have x0 : wr.drew.cell? ⟨w.heap.size, 0, none⟩ = some (.int .i64 x.d) := x0
      have x1 : wr.drew.cell? ⟨w.heap.size, 1, none⟩ = some (.int .i64 x.c) := x1
      have x2 : wr.drew.cell? ⟨w.heap.size, 2, none⟩ = some (.int .i64 x.n) := x2
      cases r with
      | true =>
        go_wp2_with fail
        go_region_held3 (fun w' => w'.cell? ⟨g, o + k * 3, none⟩ = some (.int .i64 y.d) ∧ w'.cell? ⟨g, o + k * 3 + 1, none⟩ = some (.int .i64 y.c) ∧ w'.cell? ⟨g, o + k * 3 + 2, none⟩ = some (.int .i64 y.n) ∧ w'.cell? ⟨w.heap.size, 0, none⟩ = some (.int .i64 x.d) ∧ w'.cell? ⟨w.heap.size, 1, none⟩ = some (.int .i64 x.c) ∧ w'.cell? ⟨w.heap.size, 2, none⟩ = some (.int .i64 x.n))
          (first | (with_reducible exact ⟨k0, k1, k2, x0, x1, x2⟩))
          ((go_at_call 54; refine (HBy.out).mono ?_; rintro e w4 ⟨rfl, hb4⟩; have HB4 := Lib.hid (HBd.out.trans (hb4.mono HBd.out.size)); have k0 := keepF hb4 k0; have k1 := keepF hb4 k1; have k2 := keepF hb4 k2; have x0 := keepF hb4 x0; have x1 := keepF hb4 x1; have x2 := keepF hb4 x2; clear hb4))
        go_wp2_with fail
        go_roundw
        case rel => exact ⟨k + 1, HLt.out, by go_num, HPk.out.2 (by have := HR.out; simpa using this.symm), HB4.out⟩
        case measure => have := HLt.out; simp [RowKit.intOf]; omega
      | false =>
        have HEk : Hid (posF l x = k) := Lib.hid (HPk.out.1 (by have := HR.out; simpa using this.symm))
        go_wp2_with fail
        go_region_held3 (fun w' => w'.cell? ⟨g, o + k * 3, none⟩ = some (.int .i64 y.d) ∧ w'.cell? ⟨g, o + k * 3 + 1, none⟩ = some (.int .i64 y.c) ∧ w'.cell? ⟨g, o + k * 3 + 2, none⟩ = some (.int .i64 y.n) ∧ w'.cell? ⟨w.heap.size, 0, none⟩ = some (.int .i64 x.d) ∧ w'.cell? ⟨w.heap.size, 1, none⟩ = some (.int .i64 x.c) ∧ w'.cell? ⟨w.heap.size, 2, none⟩ = some (.int .i64 x.n))
          (first | (with_reducible exact ⟨k0, k1, k2, x0, x1, x2⟩))
          ((go_at_call 54; refine (HBy.out).mono ?_; rintro e w4 ⟨rfl, hb4⟩; have HB4 := Lib.hid (HBd.out.trans (hb4.mono HBd.out.size)); have k0 := keepF hb4 k0; have k1 := keepF hb4 k1; have k2 := keepF hb4 k2; have x0 := keepF hb4 x0; have x1 := keepF hb4 x1; have x2 := keepF hb4 x2; clear hb4))
        have HH := Lib.hid (HRw.out w4 HB4.out)
        go_wp2_with (at_builtin; first | (refine wpList_append_x (E := flL) (k := 3) (fun _ => rfl) (by decide) flL_one Tryz.underlying30 infoFl rfl (by decide) rfl _ _ rfl w0.heap.size _ [] rfl (OwnX.nil _ _ _ _ _) _ (l.take k) rfl HH.out.1 (by have := HLe.out; simp <;> omega) HB4.out.size ?_; intro v5 w5 ho5 hg5 hat5; rw [List.nil_append] at ho5; have HO5 := Lib.hid ho5; have HB5 : Hid (Below w0.heap.size w0 w5) := Lib.hid (Below.grown HB4.out hg5 HB4.out.size (fun k hk => by cases hk)); have x0 := keepF HB5.out HK.out.1; have x1 := keepF HB5.out HK.out.2.1; have x2 := keepF HB5.out HK.out.2.2; obtain ⟨sb, sn, sd, hsn, rfl⟩ : ∃ a n c, n = (l.take k).length ∧ v5 = Value.slice a n c := (by obtain ⟨a, c, h⟩ := ho5.slice; exact ⟨a, _, c, rfl, h⟩); clear hsn; clear ho5 hg5 hat5) | (refine wpList_append_x (E := flL) (k := 3) (fun _ => rfl) (by decide) flL_one Tryz.underlying30 infoFl rfl (by decide) rfl _ _ rfl w0.heap.size _ (l.take k) rfl (HO5.out.grown (newF w5 _)) _ [x] rfl (rowx_new (E := flL) (k := 3) (fun _ => rfl) w5 x #[.int .i64 x.d, .int .i64 x.c, .int .i64 x.n] (by rfl) 50 _ rfl) (by have := HLe.out; simp <;> omega) (Nat.le_trans HB5.out.size (by simp)) ?_; intro v6 w6 ho6 hg6 hat6; have HO6 := Lib.hid ho6; have HB6 : Hid (Below w0.heap.size w0 w6) := Lib.hid (Below.grown (Below.alloc HB5.out HB5.out.size _) hg6 (Nat.le_trans HB5.out.size (by simp)) (fun k hk => (HO5.out.lt k hk).1)); have HH6 := Lib.hid (HRw.out w6 HB6.out); obtain ⟨tb, tn, td, htn, rfl⟩ : ∃ a n c, n = (l.take k ++ [x]).length ∧ v6 = Value.slice a n c := (by obtain ⟨a, c, h⟩ := ho6.slice; exact ⟨a, _, c, rfl, h⟩); clear htn; clear ho6 hg6 hat6) | (refine wpList_append_x (E := flL) (k := 3) (fun _ => rfl) (by decide) flL_one Tryz.underlying30 infoFl rfl (by decide) rfl _ _ rfl w0.heap.size _ (l.take k ++ [x]) rfl HO6.out _ (l.drop k) rfl HH6.out.2 (by have := HLe.out; simp <;> omega) HB6.out.size ?_; intro v7 w7 ho7 hg7 hat7; have HO7 := Lib.hid ho7; have HB7 : Hid (Below w0.heap.size w0 w7) := Lib.hid (Below.grown HB6.out hg7 HB6.out.size (fun k hk => (HO6.out.lt k hk).1)); clear ho7 hg7 hat7))
        go_ret
        exact ⟨_, rfl, by rw [HPu.out, HEk.out]; have := HO7.out.base HB0.out.size; rw [List.append_assoc] at this; exact this, onF HB0.out HB7.out⟩
    · have hke : k = l.length := by omega
      subst hke
      have p1 : ¬ (l.length : Int) < (l.length : Int) := by omega
      have hd1 : decide ((l.length : Int) < (l.length : Int)) = false := decide_eq_false p1
      have HEk : Hid (posF l x = l.length) := Lib.hid (Nat.le_antisymm HPl.out hp)
      have HBn := Lib.hid (fun q => hb.trans ((below_drewE wr q).mono hb.size))
      rcases HS.out with ⟨hnil, a, c, hv⟩ | ⟨h0, g, o, cap, hv, hc1, hc2, hT⟩
      · subst hnil
        injection hv with hv1 _ hv3
        subst hv1 hv3
        have HRw : Hid (∀ wx, Below w0.heap.size w0 wx → RowX flL 3 wx (.slice va 0 vc) (([] : List Flw).take 0) ∧ RowX flL 3 wx (.slice va 0 vc) (([] : List Flw).drop 0)) := Lib.hid (fun wx _ => ⟨.inl ⟨rfl, _, _, rfl⟩, .inl ⟨rfl, _, _, rfl⟩⟩)
        have HEk : Hid (posF ([] : List Flw) x = 0) := HEk
        clear hb hp hlt hk x0 x1 x2
        simp only [List.length_nil] at *
        go_wp2_with fail
        go_quiet (fail)
        have HB4 : Hid (Below w0.heap.size w0 (wr.drewN nq)) := Lib.hid (HBn.out nq)
        generalize wr.drewN nq = w4 at *
        go_wp2_with (at_builtin; first | (refine wpList_append_x (E := flL) (k := 3) (fun _ => rfl) (by decide) flL_one Tryz.underlying30 infoFl rfl (by decide) rfl _ _ rfl w0.heap.size _ [] rfl (OwnX.nil _ _ _ _ _) _ ([] : List Flw) rfl (.inl ⟨rfl, _, _, rfl⟩) (by have := HLe.out; simp <;> omega) HB4.out.size ?_; intro v5 w5 ho5 hg5 hat5; rw [List.nil_append] at ho5; have HO5 := Lib.hid ho5; have HB5 : Hid (Below w0.heap.size w0 w5) := Lib.hid (Below.grown HB4.out hg5 HB4.out.size (fun k hk => by cases hk)); have x0 := keepF HB5.out HK.out.1; have x1 := keepF HB5.out HK.out.2.1; have x2 := keepF HB5.out HK.out.2.2; obtain ⟨sb, sn, sd, hsn, rfl⟩ : ∃ a n c, n = (([] : List Flw)).length ∧ v5 = Value.slice a n c := (by obtain ⟨a, c, h⟩ := ho5.slice; exact ⟨a, _, c, rfl, h⟩); clear hsn; clear ho5 hg5 hat5) | (refine wpList_append_x (E := flL) (k := 3) (fun _ => rfl) (by decide) flL_one Tryz.underlying30 infoFl rfl (by decide) rfl _ _ rfl w0.heap.size _ (([] : List Flw)) rfl (HO5.out.grown (newF w5 _)) _ [x] rfl (rowx_new (E := flL) (k := 3) (fun _ => rfl) w5 x #[.int .i64 x.d, .int .i64 x.c, .int .i64 x.n] (by rfl) 50 _ rfl) (by have := HLe.out; simp <;> omega) (Nat.le_trans HB5.out.size (by simp)) ?_; intro v6 w6 ho6 hg6 hat6; have HO6 := Lib.hid ho6; have HB6 : Hid (Below w0.heap.size w0 w6) := Lib.hid (Below.grown (Below.alloc HB5.out HB5.out.size _) hg6 (Nat.le_trans HB5.out.size (by simp)) (fun k hk => (HO5.out.lt k hk).1)); obtain ⟨tb, tn, td, htn, rfl⟩ : ∃ a n c, n = (([] : List Flw) ++ [x]).length ∧ v6 = Value.slice a n c := (by obtain ⟨a, c, h⟩ := ho6.slice; exact ⟨a, _, c, rfl, h⟩); clear htn; clear ho6 hg6 hat6) | (refine wpList_append_x (E := flL) (k := 3) (fun _ => rfl) (by decide) flL_one Tryz.underlying30 infoFl rfl (by decide) rfl _ _ rfl w0.heap.size _ (([] : List Flw) ++ [x]) rfl HO6.out _ ([] : List Flw) rfl (.inl ⟨rfl, _, _, rfl⟩) (by have := HLe.out; simp <;> omega) HB6.out.size ?_; intro v7 w7 ho7 hg7 hat7; have HO7 := Lib.hid ho7; have HB7 : Hid (Below w0.heap.size w0 w7) := Lib.hid (Below.grown HB6.out hg7 HB6.out.size (fun k hk => (HO6.out.lt k hk).1)); clear ho7 hg7 hat7))
        all_goals
          go_ret
          exact ⟨_, rfl, by rw [HPu.out, HEk.out]; have := HO7.out.base HB0.out.size; rw [List.append_assoc] at this; exact this, onF HB0.out HB7.out⟩
      · injection hv with hv1 _ hv3
        subst hv1 hv3
        have hkl : l.length ≤ l.length := Nat.le_refl _
        have HRw := Lib.hid (fun (wx : World) (hb : Below w0.heap.size w0 wx) => And.intro (RowX.head (E := flL) (n := 3) hc1 hc2 (fun j hj i c hi he => keepF hb (hT j hj i c hi he)) hkl) (RowX.tail (E := flL) (n := 3) hc1 hc2 (fun j hj i c hi he => keepF hb (hT j hj i c hi he)) hkl))
        clear hb hp hlt hk x0 x1 x2 hT hkl
        go_wp2_with fail
        go_quiet (fail)
        have HB4 : Hid (Below w0.heap.size w0 (wr.drewN nq)) := Lib.hid (HBn.out nq)
        generalize wr.drewN nq = w4 at *
        have HH := Lib.hid (HRw.out w4 HB4.out)
        go_wp2_with (at_builtin; first | (refine wpList_append_x (E := flL) (k := 3) (fun _ => rfl) (by decide) flL_one Tryz.underlying30 infoFl rfl (by decide) rfl _ _ rfl w0.heap.size _ [] rfl (OwnX.nil _ _ _ _ _) _ (l.take l.length) rfl HH.out.1 (by have := HLe.out; simp <;> omega) HB4.out.size ?_; intro v5 w5 ho5 hg5 hat5; rw [List.nil_append] at ho5; have HO5 := Lib.hid ho5; have HB5 : Hid (Below w0.heap.size w0 w5) := Lib.hid (Below.grown HB4.out hg5 HB4.out.size (fun k hk => by cases hk)); have x0 := keepF HB5.out HK.out.1; have x1 := keepF HB5.out HK.out.2.1; have x2 := keepF HB5.out HK.out.2.2; obtain ⟨sb, sn, sd, hsn, rfl⟩ : ∃ a n c, n = (l.take l.length).length ∧ v5 = Value.slice a n c := (by obtain ⟨a, c, h⟩ := ho5.slice; exact ⟨a, _, c, rfl, h⟩); clear hsn; clear ho5 hg5 hat5) | (refine wpList_append_x (E := flL) (k := 3) (fun _ => rfl) (by decide) flL_one Tryz.underlying30 infoFl rfl (by decide) rfl _ _ rfl w0.heap.size _ (l.take l.length) rfl (HO5.out.grown (newF w5 _)) _ [x] rfl (rowx_new (E := flL) (k := 3) (fun _ => rfl) w5 x #[.int .i64 x.d, .int .i64 x.c, .int .i64 x.n] (by rfl) 50 _ rfl) (by have := HLe.out; simp <;> omega) (Nat.le_trans HB5.out.size (by simp)) ?_; intro v6 w6 ho6 hg6 hat6; have HO6 := Lib.hid ho6; have HB6 : Hid (Below w0.heap.size w0 w6) := Lib.hid (Below.grown (Below.alloc HB5.out HB5.out.size _) hg6 (Nat.le_trans HB5.out.size (by simp)) (fun k hk => (HO5.out.lt k hk).1)); have HH6 := Lib.hid (HRw.out w6 HB6.out); obtain ⟨tb, tn, td, htn, rfl⟩ : ∃ a n c, n = (l.take l.length ++ [x]).length ∧ v6 = Value.slice a n c := (by obtain ⟨a, c, h⟩ := ho6.slice; exact ⟨a, _, c, rfl, h⟩); clear htn; clear ho6 hg6 hat6) | (refine wpList_append_x (E := flL) (k := 3) (fun _ => rfl) (by decide) flL_one Tryz.underlying30 infoFl rfl (by decide) rfl _ _ rfl w0.heap.size _ (l.take l.length ++ [x]) rfl HO6.out _ (l.drop l.length) rfl (by first | exact HH6.out.2 | (rw [List.drop_length]; exact .inl ⟨rfl, _, _, rfl⟩)) (by have := HLe.out; simp <;> omega) HB6.out.size ?_; intro v7 w7 ho7 hg7 hat7; have HO7 := Lib.hid ho7; have HB7 : Hid (Below w0.heap.size w0 w7) := Lib.hid (Below.grown HB6.out hg7 HB6.out.size (fun k hk => (HO6.out.lt k hk).1)); clear ho7 hg7 hat7))
        all_goals
          go_ret
          exact ⟨_, rfl, by rw [HPu.out, HEk.out]; have := HO7.out.base HB0.out.size; rw [List.append_assoc] at this; exact this, onF HB0.out HB7.out⟩

end Go.Proofs.YtjafbfepdmgjnaaGreatDoor

namespace Go.Proofs.YtjafbfepdmgjnaaGreatDoor
open Go.RowKit Go.Lib Go.Shelf Go.Maps
set_option linter.unusedVariables false
set_option linter.unusedSimpArgs false

theorem join_gv {n : Nd} {L : List (List Nd)} {w : World} {e : Ending} {w' : World} (h : JoinE n L w e w') : ∃ vj, e = .returned (.tuple #[vj, .int .i64 (jnK n L)]) ∧ (jnK n L ≠ 0 → vj = .slice none 0 0) ∧ (jnK n L = 0 → OwnN w' w.heap.size vj (n :: L.flatten)) := by
  by_cases hk : jnK n L = 0
  · obtain ⟨v', h1, h2⟩ := h.2 hk
    exact ⟨v', by rw [hk]; exact h1, fun h => absurd hk h, fun _ => h2⟩
  · exact ⟨_, h.1 hk, fun _ => rfl, fun h => absurd h hk⟩
theorem put_all : ∀ (l a : List Flw), SrF a → SrF (l.foldl putF a) ∧ (l.foldl putF a).Perm (l ++ a)
  | [], a, h => ⟨h, List.Perm.refl _⟩
  | x :: l, a, h => by
    obtain ⟨h1, h2⟩ := put_all l (putF a x) (putF_srt x h)
    refine ⟨h1, h2.trans ?_⟩
    refine (List.Perm.append_left l (putF_perm a x)).trans ?_
    exact List.perm_middle
end Go.Proofs.YtjafbfepdmgjnaaGreatDoor

namespace Go.Proofs.YtjafbfepdmgjnaaGreatDoor
open Go.RowKit Go.Lib Go.Shelf Go.Maps
set_option linter.unusedVariables false
set_option linter.unusedSimpArgs false

/-- Rows joined under a node: where they stand, and what they pay. -/
theorem rows_join {n : Nd} {L : List (List Nd)} (h : jnK n L = 0) (hm : mkO n.op = 2) : (ofK (n :: L.flatten)).2 = 0 ∧ cnO n.op = L.length ∧ CtA (n :: L.flatten) 0 ∧
    ∀ i, i < L.length → kid (n :: L.flatten) 0 i = offL L i ∧ szA (n :: L.flatten) (offL L i) = (L.getD i []).length ∧ (kdC (ixO n.op) i = 2 → (ofK (L.getD i [])).2 = 0 ∧ CtA (L.getD i []) 0 ∧
      ∀ (E : Env), E.Ok → ∀ (tu : Int), tu ≤ 73048 → ∀ (d : Int) (q : Rat), dn (n :: L.flatten) E tu ⟨kid (n :: L.flatten) 0 i, d, q⟩ = dn (L.getD i []) E tu ⟨0, d, q⟩) := by
  unfold jnK at h
  by_cases h0 : (ofK (n :: L.flatten)).2 ≠ 0
  · rw [if_pos h0] at h; omega
  · have h0 : (ofK (n :: L.flatten)).2 = 0 := by omega
    rw [if_neg (by omega)] at h
    have hw := (ofK_zero h0).2.1
    by_cases hp : pcN L L.length = plL (n :: L.flatten) 0 (cnO n.op)
    · obtain ⟨j1, j2⟩ := join_parts hw hp
      have hpl : ∀ i, i ≤ L.length → plA (n :: L.flatten) 1 i = offL L i := by
        intro i
        induction i with
        | zero => intro _; simp [offL, plA]
        | succ i ih =>
          intro hi
          rw [plA, (j2 i (by omega)).2, ih (by omega), offL_succ (by omega)]
      have k0 : CtA (n :: L.flatten) 0 := ⟨by simp, hm⟩
      refine ⟨h0, j1, k0, fun i hi => ⟨hpl i (by omega), by rw [← hpl i (by omega)]; exact (j2 i hi).2, fun hk => ?_⟩⟩
      have k1 : CtA (n :: L.flatten) (kid (n :: L.flatten) 0 i) := kid_ct h0 (p := 0) (i := i) k0.lt (by show i < cnO n.op; omega) hk
      have hki : kid (n :: L.flatten) 0 i = offL L i := hpl i (by omega)
      have hsz : szA (n :: L.flatten) (kid (n :: L.flatten) 0 i) = (L.getD i []).length := (j2 i hi).2
      have hs : subT (n :: L.flatten) (kid (n :: L.flatten) 0 i) (szA (n :: L.flatten) (kid (n :: L.flatten) 0 i)) = L.getD i [] := by rw [hsz, hki]; exact ov_sub n hi
      have hI : Ins (n :: L.flatten) (kid (n :: L.flatten) 0 i) := ⟨h0, k1⟩
      have ho := hI.sub
      have hp0 := ct_pos h0 k1
      have hop := hI.op (q := 0) hp0
      rw [hs] at ho hop
      refine ⟨ho, ⟨by omega, ?_⟩, fun E hE tu hto d q => ?_⟩
      · rw [hop, Nat.add_zero]; exact k1.mc
      · rw [dn_in h0 k1 hE hto d q, hs]
    · rw [if_neg hp] at h; cases h
/-- Both of two contracts. -/
theorem both_dn {t u : List Nd} (h : jnK ⟨12, 0, 0, 0, 0⟩ [t, u] = 0) {E : Env} (hE : E.Ok) {tu : Int} (hto : tu ≤ 73048) (d : Int) (q : Rat) :
    dn (⟨12, 0, 0, 0, 0⟩ :: [t, u].flatten) E tu ⟨0, d, q⟩ = cat (dn t E tu ⟨0, d, q⟩) (dn u E tu ⟨0, d, q⟩) := by
  obtain ⟨h0, h1, h2, h3⟩ := rows_join h (by decide)
  have g0 := (h3 0 (by simp)).2.2 (by decide)
  have g1 := (h3 1 (by simp)).2.2 (by decide)
  by_cases hl : tu < d
  · rw [dn_late (x := ⟨0, d, q⟩) hl, dn_late (x := ⟨0, d, q⟩) hl, dn_late (x := ⟨0, d, q⟩) hl]; rfl
  rw [dn_eq h0 hE hto h2 hl, stp_and (by rfl)]
  show cat nul (cat (dn (⟨12, 0, 0, 0, 0⟩ :: [t, u].flatten) E tu ⟨kid _ 0 0, d, q⟩) (cat (dn (⟨12, 0, 0, 0, 0⟩ :: [t, u].flatten) E tu ⟨kid _ 0 1, d, q⟩) nul)) = _
  rw [g0.2.2 E hE tu hto d q, g1.2.2 E hE tu hto d q, cat_nul, nul_cat]
  rfl
/-- One that begins at a day. -/
theorem when_dn {t : List Nd} {a : Int} (h : jnK ⟨14, a, 0, 0, 0⟩ [t] = 0) {E : Env} (hE : E.Ok) {tu : Int} (hto : tu ≤ 73048) (d : Int) (q : Rat) :
    dn (⟨14, a, 0, 0, 0⟩ :: [t].flatten) E tu ⟨0, d, q⟩ = if d ≤ a then dn t E tu ⟨0, a, q⟩ else nul := by
  obtain ⟨h0, h1, h2, h3⟩ := rows_join h (by show mkO 14 = 2; decide)
  have g0 := (h3 0 (by simp)).2.2 (by show kdC (ixO 14) 0 = 2; decide)
  by_cases hl : tu < d
  · rw [dn_late (x := ⟨0, d, q⟩) hl]
    by_cases ha : d ≤ a
    · rw [if_pos ha, dn_late (x := ⟨0, a, q⟩) (show tu < a by omega)]
    · rw [if_neg ha]
  rw [dn_eq h0 hE hto h2 hl, stp_when (by rfl)]
  by_cases ha : d ≤ a
  · rw [if_pos ha, if_pos (show (⟨0, d, q⟩ : Td).day ≤ aA (⟨14, a, 0, 0, 0⟩ :: [t].flatten) 0 from ha)]
    show cat nul (cat (dn (⟨14, a, 0, 0, 0⟩ :: [t].flatten) E tu ⟨kid _ 0 0, a, q⟩) nul) = _
    rw [g0.2.2 E hE tu hto a q, cat_nul, nul_cat]
    rfl
  · rw [if_neg ha, if_neg (show ¬ (⟨0, d, q⟩ : Td).day ≤ aA (⟨14, a, 0, 0, 0⟩ :: [t].flatten) 0 from ha)]
    rfl

end Go.Proofs.YtjafbfepdmgjnaaGreatDoor

namespace Go.Proofs.YtjafbfepdmgjnaaGreatDoor
open Go.RowKit Go.Lib Go.Shelf Go.Maps
set_option linter.unusedVariables false
set_option linter.unusedSimpArgs false

theorem er_cases {t : List Nd} {lf lc : List Fct} {fr tu : Int} (hc : chkK t = 0) (hb : ¬ badD fr tu) :
    (dn t (envL lf lc) tu ⟨0, fr, 1⟩ = none → erD t lf lc fr tu = 11) ∧ ∀ r, dn t (envL lf lc) tu ⟨0, fr, 1⟩ = some r → erD t lf lc fr tu = 0 ∧ reD t lf lc fr tu = r := by
  refine ⟨fun h => ?_, fun r h => ⟨?_, ?_⟩⟩
  · unfold erD; rw [if_neg (by omega), if_neg hb, if_pos h]
  · unfold erD; rw [if_neg (by omega), if_neg hb, if_neg (by rw [h]; simp)]
  · unfold reD; rw [h]; rfl
theorem er_bad {t : List Nd} {lf lc : List Fct} {fr tu : Int} (hc : chkK t = 0) (hb : badD fr tu) : erD t lf lc fr tu = 18 := by unfold erD; rw [if_neg (by omega), if_pos hb]
def andN9 : Nd := ⟨12, 0, 0, 0, 0⟩
def whenN (a : Int) : Nd := ⟨14, a, 0, 0, 0⟩
theorem both_er {t u : List Nd} (h : jnK andN9 [t, u] = 0) {lf lc : List Fct} (hof : OkL lf) (hoc : ∀ x ∈ lc, x.p = 1 ∨ x.p = 2) (fr tu : Int) :
    (erD (andN9 :: [t, u].flatten) lf lc fr tu = 0 ↔ erD t lf lc fr tu = 0 ∧ erD u lf lc fr tu = 0) ∧ (erD (andN9 :: [t, u].flatten) lf lc fr tu = 0 → (reD (andN9 :: [t, u].flatten) lf lc fr tu).1 = (reD t lf lc fr tu).1 ++ (reD u lf lc fr tu).1) := by
  obtain ⟨h0, h1, h2, h3⟩ := rows_join h (by decide)
  have g0 := (h3 0 (by simp)).2.2 (by decide)
  have g1 := (h3 1 (by simp)).2.2 (by decide)
  have c0 := chk_of_ct h0 h2
  have c1 : chkK t = 0 := chk_of_ct g0.1 g0.2.1
  have c2 : chkK u = 0 := chk_of_ct g1.1 g1.2.1
  by_cases hb : badD fr tu
  · rw [er_bad c0 hb, er_bad c1 hb, er_bad c2 hb]
    exact ⟨⟨fun h => (by cases h), fun h => (by cases h.1)⟩, fun h => (by cases h)⟩
  · have htu : tu ≤ 73048 := by unfold badD at hb; omega
    have e := both_dn h (env_okL hof hoc) htu fr 1
    obtain ⟨a1, a2⟩ := er_cases (lf := lf) (lc := lc) c0 hb
    obtain ⟨b1, b2⟩ := er_cases (lf := lf) (lc := lc) c1 hb
    obtain ⟨d1, d2⟩ := er_cases (lf := lf) (lc := lc) c2 hb
    have e : dn (andN9 :: [t, u].flatten) (envL lf lc) tu ⟨0, fr, 1⟩ = cat (dn t (envL lf lc) tu ⟨0, fr, 1⟩) (dn u (envL lf lc) tu ⟨0, fr, 1⟩) := e
    cases ht : dn t (envL lf lc) tu ⟨0, fr, 1⟩ with
    | none =>
      rw [ht] at e
      have e : dn (andN9 :: [t, u].flatten) (envL lf lc) tu ⟨0, fr, 1⟩ = none := by rw [e]; cases dn u (envL lf lc) tu ⟨0, fr, 1⟩ <;> rfl
      rw [a1 e, b1 ht]
      exact ⟨⟨fun h => (by cases h), fun h => (by cases h.1)⟩, fun h => (by cases h)⟩
    | some r =>
      obtain ⟨x1, x2⟩ := b2 r ht
      cases hu : dn u (envL lf lc) tu ⟨0, fr, 1⟩ with
      | none =>
        rw [hu, cat_none] at e
        rw [a1 e, d1 hu]
        exact ⟨⟨fun h => (by cases h), fun h => (by cases h.2)⟩, fun h => (by cases h)⟩
      | some s =>
        obtain ⟨y1, y2⟩ := d2 s hu
        rw [ht, hu] at e
        obtain ⟨z1, z2⟩ := a2 (r.1 ++ s.1, r.2 ++ s.2) e
        rw [x1, y1, z1, z2, x2, y2]
        exact ⟨⟨fun _ => ⟨rfl, rfl⟩, fun _ => rfl⟩, fun _ => rfl⟩
theorem when_er {t : List Nd} {a : Int} (h : jnK (whenN a) [t] = 0) {lf lc : List Fct} (hof : OkL lf) (hoc : ∀ x ∈ lc, x.p = 1 ∨ x.p = 2) {fr : Int} (tu : Int) (f0 : 0 ≤ fr) (f1 : fr ≤ 73048) (a0 : 0 ≤ a) (a1 : a ≤ 73048) :
    (fr ≤ a → erD (whenN a :: [t].flatten) lf lc fr tu = erD t lf lc a tu ∧ (erD t lf lc a tu = 0 → (reD (whenN a :: [t].flatten) lf lc fr tu).1 = (reD t lf lc a tu).1)) ∧
    (¬ fr ≤ a → erD (whenN a :: [t].flatten) lf lc fr tu = 0 → (reD (whenN a :: [t].flatten) lf lc fr tu).1 = []) := by
  obtain ⟨h0, h1, h2, h3⟩ := rows_join h (by show mkO 14 = 2; decide)
  have g0 := (h3 0 (by simp)).2.2 (by show kdC (ixO 14) 0 = 2; decide)
  have c0 := chk_of_ct h0 h2
  have c1 : chkK t = 0 := chk_of_ct g0.1 g0.2.1
  by_cases hb : badD fr tu
  · have hb2 : badD a tu := by unfold badD at *; omega
    rw [er_bad c0 hb, er_bad c1 hb2]
    exact ⟨fun _ => ⟨rfl, fun h => (by cases h)⟩, fun _ h => (by cases h)⟩
  · have hb2 : ¬ badD a tu := by unfold badD at *; omega
    have htu : tu ≤ 73048 := by unfold badD at hb; omega
    have e : dn (whenN a :: [t].flatten) (envL lf lc) tu ⟨0, fr, 1⟩ = if fr ≤ a then dn t (envL lf lc) tu ⟨0, a, 1⟩ else nul := when_dn h (env_okL hof hoc) htu fr 1
    obtain ⟨u1, u2⟩ := er_cases (lf := lf) (lc := lc) c0 hb
    obtain ⟨v1, v2⟩ := er_cases (lf := lf) (lc := lc) c1 hb2
    refine ⟨fun hf => ?_, fun hf _ => ?_⟩
    · rw [if_pos hf] at e
      cases ht : dn t (envL lf lc) tu ⟨0, a, 1⟩ with
      | none =>
        rw [ht] at e
        rw [u1 e, v1 ht]
        exact ⟨rfl, fun h => by cases h⟩
      | some r =>
        rw [ht] at e
        obtain ⟨x1, x2⟩ := u2 r e
        obtain ⟨y1, y2⟩ := v2 r ht
        rw [x1, y1, x2, y2]
        exact ⟨rfl, fun _ => rfl⟩
    · rw [if_neg hf] at e
      obtain ⟨x1, x2⟩ := u2 ([], []) e
      rw [x2]

end Go.Proofs.YtjafbfepdmgjnaaGreatDoor

namespace Go.Proofs.YtjafbfepdmgjnaaGreatDoor
open Go.RowKit Go.Lib Go.Shelf Go.Maps
set_option linter.unusedVariables false
set_option linter.unusedSimpArgs false

theorem up_bd {n : Nd} {t : List Nd} (hn : n.num = 0 ∧ n.den = 0) (h : BdT t) : BdT (n :: t) := fun p hp => by
  cases p with
  | zero =>
    show I64T n.num ∧ I64T n.den
    rw [hn.1, hn.2]
    exact ⟨⟨by show (-9223372036854775808 : Int) ≤ 0; decide, by show (0 : Int) ≤ 9223372036854775807; decide⟩, ⟨by show (-9223372036854775808 : Int) ≤ 0; decide, by show (0 : Int) ≤ 9223372036854775807; decide⟩⟩
  | succ p => exact h p (by simpa using hp)
theorem app_bd {t u : List Nd} (h : BdT t) (h' : BdT u) : BdT (t ++ u) := fun p hp => by
  rw [List.getD_eq_getElem?_getD]
  by_cases c : p < t.length
  · rw [List.getElem?_append_left c, ← List.getD_eq_getElem?_getD]; exact h p c
  · rw [List.getElem?_append_right (by omega), ← List.getD_eq_getElem?_getD]
    exact h' _ (by rw [List.length_append] at hp; omega)
theorem bj_any (t u : List Nd) (hl : t.length ≤ 1000) (hlu : u.length ≤ 1000) (hbd : BdT t) (hbu : BdT u) (v vu : Value) (w : World) (hv : SlT w v t) (hu : SlT w vu u) (C : KndW w) :
    Calls Tryz.prog 19 #[.agg #[.int .i64 12, .int .i64 0, .int .i64 0, .int .i64 0, .int .i64 0], .slice (some ⟨w.heap.size, 0, none⟩) 2 2] (w.alloc (.cells #[v, vu] 22)) fun e w' => (∃ vj, e = .returned (.tuple #[vj, .int .i64 (jnK andN9 [t, u])]) ∧ (jnK andN9 [t, u] ≠ 0 → vj = .slice none 0 0) ∧ (jnK andN9 [t, u] = 0 → OwnN w' w.heap.size vj (andN9 :: [t, u].flatten))) ∧ Below w.heap.size w w' := by
  have hS : SlS (w.alloc (.cells #[v, vu] 22)) (some ⟨w.heap.size, 0, none⟩) 2 [t, u] := fun _ => ⟨w.heap.size, 0, rfl, Nat.le_refl _, by decide, fun j hj => by
    have hj2 : j < 2 := hj
    rcases (show j = 0 ∨ j = 1 by omega) with rfl | rfl
    · exact ⟨v, by rw [World.cell?_alloc_at _ _ _ _ rfl]; rfl, hv.keep (newF w _)⟩
    · exact ⟨vu, by rw [World.cell?_alloc_at _ _ _ _ rfl]; rfl, hu.keep (newF w _)⟩⟩
  have := join_any andN9 [t, u] (by simp) (fun j hj => by
    rcases (show j = 0 ∨ j = 1 by have : j < 2 := hj; omega) with rfl | rfl
    · exact hl
    · exact hlu) (by have := up_bd (n := andN9) ⟨rfl, rfl⟩ (app_bd hbd hbu); simpa using this) (some ⟨w.heap.size, 0, none⟩) 2 (w.alloc (.cells #[v, vu] 22)) hS (C.keep (newF w _))
  refine this.mono ?_
  rintro e w' ⟨h1, h2⟩
  obtain ⟨vj, h3, h4, h5⟩ := join_gv h1
  exact ⟨⟨vj, h3, h4, fun h => (h5 h).base (show w.heap.size ≤ _ by simp)⟩, onF (newF w _) h2⟩
theorem wj_any (a : Int) (t : List Nd) (hl : t.length ≤ 1000) (hbd : BdT t) (v : Value) (w : World) (hv : SlT w v t) (C : KndW w) :
    Calls Tryz.prog 19 #[.agg #[.int .i64 14, .int .i64 a, .int .i64 0, .int .i64 0, .int .i64 0], .slice (some ⟨w.heap.size, 0, none⟩) 1 1] (w.alloc (.cells #[v] 22)) fun e w' => (∃ vj, e = .returned (.tuple #[vj, .int .i64 (jnK (whenN a) [t])]) ∧ (jnK (whenN a) [t] ≠ 0 → vj = .slice none 0 0) ∧ (jnK (whenN a) [t] = 0 → OwnN w' w.heap.size vj (whenN a :: [t].flatten))) ∧ Below w.heap.size w w' := by
  have hS : SlS (w.alloc (.cells #[v] 22)) (some ⟨w.heap.size, 0, none⟩) 1 [t] := fun _ => ⟨w.heap.size, 0, rfl, Nat.le_refl _, by decide, fun j hj => by
    have : j = 0 := by have : j < 1 := hj; omega
    subst this
    exact ⟨v, by rw [World.cell?_alloc_at _ _ _ _ rfl]; rfl, hv.keep (newF w _)⟩⟩
  have := join_any (whenN a) [t] (by simp) (fun j hj => by cases (show j = 0 by simpa using hj); exact hl) (by have := up_bd (n := whenN a) ⟨rfl, rfl⟩ hbd; simpa using this) (some ⟨w.heap.size, 0, none⟩) 1 (w.alloc (.cells #[v] 22)) hS (C.keep (newF w _))
  refine this.mono ?_
  rintro e w' ⟨h1, h2⟩
  obtain ⟨vj, h3, h4, h5⟩ := join_gv h1
  exact ⟨⟨vj, h3, h4, fun h => (h5 h).base (show w.heap.size ≤ _ by simp)⟩, onF (newF w _) h2⟩

theorem fold_len : ∀ (l a : List Flw), (l.foldl putF a).length = l.length + a.length
  | [], a => by simp
  | x :: l, a => by rw [List.foldl_cons, fold_len l, putF_len, List.length_cons]; omega
set_option maxRecDepth 100000 in
set_option maxHeartbeats 8000000 in
theorem both_walk (w : World) (t : List Nd) (hbd : BdT t) (v0 : Value) (h0 : SlT w v0 t) (fr tu : Int) (L : List Tol) (s1 : Value) (h1 : SlTol w s1 L) (hok1 : ∀ j, j < L.length → (L.getD j default).Ok) (u : List Nd) (hbu : BdT u) (vu : Value) (hu : SlT w vu u) (day : Int) (C : KndW w) :
    Calls Tryz.prog 6 #[.agg #[v0, .int .i64 fr, .int .i64 tu, s1], vu, .int .i64 day] w fun e w' => e = .returned (.bool true) ∧ Below w.heap.size w w' := by
  obtain ⟨a0, c0, rfl⟩ := h0.slice
  obtain ⟨a1, c1, rfl⟩ : ∃ a c, s1 = .slice a L.length c := by
    rcases h1 with ⟨rfl, a, c, rfl⟩ | ⟨_, b, o, c, rfl, _⟩
    · exact ⟨_, _, rfl⟩
    · exact ⟨_, _, rfl⟩
  obtain ⟨ua, uc, rfl⟩ := hu.slice
  have HAw := Lib.hid (fun (w' : World) (hb : Below w.heap.size w w') => awake9_any w' (C.keep hb))
  have hb0 := newF w (.cells #[.slice a0 t.length c0, .int .i64 fr, .int .i64 tu, .slice a1 L.length c1] 25)
  have rr : ∀ k v, (#[.slice a0 t.length c0, .int .i64 fr, .int .i64 tu, .slice a1 L.length c1] : Array Value)[k]? = some v → (w.alloc (.cells #[.slice a0 t.length c0, .int .i64 fr, .int .i64 tu, .slice a1 L.length c1] 25)).cell? ⟨w.heap.size, k, none⟩ = some v := fun k v hv => by rw [World.cell?_alloc_at _ _ _ _ rfl]; exact hv
  have r0 := rr 0 (.slice a0 t.length c0) rfl
  have r1 := rr 1 (.int .i64 fr) rfl
  have r2 := rr 2 (.int .i64 tu) rfl
  have r3 := rr 3 (.slice a1 L.length c1) rfl
  have HR := Lib.hid (And.intro r0 (And.intro r1 (And.intro r2 r3)))
  have HB0 := Lib.hid hb0
  have HS := Lib.hid (And.intro (h0.keep hb0) (And.intro (h1.keep hb0) (And.intro (C.keep hb0) (hu.keep hb0))))
  have HMd := Lib.hid (fun (w' : World) (hs : SlTol w' (.slice a1 L.length c1) L) => made_any w' _ L hs hok1)
  have HFw := Lib.hid (fun (w' : World) => few_any w' a0 a1 t.length L.length c0 c1 fr tu)
  have hrel := rel_made L L.length (Nat.le_refl _) hok1
  rw [List.take_length] at hrel
  have HRel := Lib.hid (And.intro hrel.1 (And.intro hrel.2.1 (And.intro (plF_ok L (ok_mem hok1)) (plC_ok L))))
  have HBd := Lib.hid (And.intro hbd hbu)
  obtain ⟨few, hfew⟩ : ∃ b, b = decide (t.length ≤ 100 ∧ L.length ≤ 60) := ⟨_, rfl⟩
  rw [← hfew] at HFw
  have HF := Lib.hid hfew
  clear hb0 rr r0 r1 r2 h0 h1 hok1 C hbd hbu hu hrel hfew
  go_enter Tryz.func6, Tryz.ntmps6
  go_wp2_with fail
  generalize w.alloc (.cells #[.slice a0 t.length c0, .int .i64 fr, .int .i64 tu, .slice a1 L.length c1] 25) = w0 at *
  refine (HMd.out _ HS.out.2.1).mono ?_
  rintro e w1 ⟨B, bf, bc, rfl, hm, hB, hbf, hbc, hb1⟩
  have HM := Lib.hid hm
  have HB1 := Lib.hid hb1
  have HBw := Lib.hid (onF HB0.out hb1)
  have r0 := keepF hb1 HR.out.1
  have r1 := keepF hb1 HR.out.2.1
  have r2 := keepF hb1 HR.out.2.2.1
  have r3 := keepF hb1 HR.out.2.2.2
  clear hm hB hbf hbc hb1 HMd
  go_wp2_with fail
  refine (HFw.out _).mono ?_
  rintro e w2 ⟨rfl, hb2⟩
  have HB2 := Lib.hid (onF HBw.out hb2)
  have HM2 := Lib.hid (HM.out.keep hb2)
  have HS2 := Lib.hid (And.intro ((HS.out.1.keep HB1.out).keep hb2) (And.intro ((HS.out.2.2.1.keep HB1.out).keep hb2) ((HS.out.2.2.2.keep HB1.out).keep hb2)))
  have r0 := keepF hb2 r0
  have r1 := keepF hb2 r1
  have r2 := keepF hb2 r2
  have HR2 := Lib.hid (And.intro r0 (And.intro r1 r2))
  clear hb2 HFw HM HB1 HBw HB0 HR HS r3
  cases few with
  | false =>
    clear r0 r1 r2
    go_wp2_with fail
    refine (HAw.out _ HB2.out).mono ?_
    rintro e w3 ⟨rfl, hb3⟩
    have HB3 := Lib.hid (onF HB2.out hb3)
    clear hb3
    go_wp2_with fail
    go_ret
    exact ⟨rfl, HB3.out⟩
  | true =>
    by_cases l1 : (30 : Int) < (t.length : Int)
    · go_wp2_with fail
      refine (HAw.out _ HB2.out).mono ?_
      rintro e w3 ⟨rfl, hb3⟩
      have HB3 := Lib.hid (onF HB2.out hb3)
      clear hb3
      go_wp2_with fail
      go_ret
      exact ⟨rfl, HB3.out⟩
    by_cases l2 : (30 : Int) < (u.length : Int)
    · go_wp2_with fail
      refine (HAw.out _ HB2.out).mono ?_
      rintro e w3 ⟨rfl, hb3⟩
      have HB3 := Lib.hid (onF HB2.out hb3)
      clear hb3
      go_wp2_with fail
      go_ret
      exact ⟨rfl, HB3.out⟩
    by_cases l3 : day < 0
    · go_wp2_with fail
      refine (HAw.out _ HB2.out).mono ?_
      rintro e w3 ⟨rfl, hb3⟩
      have HB3 := Lib.hid (onF HB2.out hb3)
      clear hb3
      go_wp2_with fail
      go_ret
      exact ⟨rfl, HB3.out⟩
    by_cases l4 : (73048 : Int) < day
    · go_wp2_with fail
      refine (HAw.out _ HB2.out).mono ?_
      rintro e w3 ⟨rfl, hb3⟩
      have HB3 := Lib.hid (onF HB2.out hb3)
      clear hb3
      go_wp2_with fail
      go_ret
      exact ⟨rfl, HB3.out⟩
    by_cases l5 : fr < 0
    · go_wp2_with fail
      refine (HAw.out _ HB2.out).mono ?_
      rintro e w3 ⟨rfl, hb3⟩
      have HB3 := Lib.hid (onF HB2.out hb3)
      clear hb3
      go_wp2_with fail
      go_ret
      exact ⟨rfl, HB3.out⟩
    by_cases l6 : (73048 : Int) < fr
    · go_wp2_with fail
      refine (HAw.out _ HB2.out).mono ?_
      rintro e w3 ⟨rfl, hb3⟩
      have HB3 := Lib.hid (onF HB2.out hb3)
      clear hb3
      go_wp2_with fail
      go_ret
      exact ⟨rfl, HB3.out⟩
    have HD := Lib.hid (And.intro l1 (And.intro l2 (And.intro l3 (And.intro l4 (And.intro l5 l6)))))
    have HRun := Lib.hid (fun (w' : World) (hb : Below w2.heap.size w2 w') (T : List Nd) (hT : T.length ≤ 1000) (hB : BdT T) (v : Value) (hs : SlT w' v T) (f : Int) => flows_any w' T hT hB v hs (HS2.out.2.1.keep hb) f tu (HM2.out.keep hb) HRel.out.1 HRel.out.2.1 HRel.out.2.2.1 HRel.out.2.2.2)
    have HJ1 := Lib.hid (bj_any t u (by omega) (by omega) HBd.out.1 HBd.out.2 _ _ w2 HS2.out.1 HS2.out.2.2 HS2.out.2.1)
    have HJ2 := Lib.hid (fun (w' : World) (hb : Below w2.heap.size w2 w') => wj_any day t (by omega) HBd.out.1 _ w' (HS2.out.1.keep hb) (HS2.out.2.1.keep hb))
    have HEb := Lib.hid (fun (h : jnK andN9 [t, u] = 0) => both_er h HRel.out.2.2.1 HRel.out.2.2.2 fr tu)
    have HEw := Lib.hid (fun (h : jnK (whenN day) [t] = 0) => when_er h HRel.out.2.2.1 HRel.out.2.2.2 tu (by omega : 0 ≤ fr) (by omega : fr ≤ 73048) (by omega : 0 ≤ day) (by omega : day ≤ 73048))
    go_wp2_with fail
    refine HJ1.out.mono ?_
    rintro e w3 ⟨⟨vj, rfl, _, hj1⟩, hb3⟩
    have HB3 := Lib.hid hb3
    have HJ2a := Lib.hid (HJ2.out w3 hb3)
    have r0 := keepF hb3 HR2.out.1
    have r1 := keepF hb3 HR2.out.2.1
    have r2 := keepF hb3 HR2.out.2.2
    obtain ⟨j1, hj⟩ : ∃ j, j = jnK andN9 [t, u] := ⟨_, rfl⟩
    rw [← hj] at hj1 ⊢
    have HJ := Lib.hid hj
    have HJb := Lib.hid hj1
    clear hb3 hj hj1 HJ1 HJ2
    go_wp2_with fail
    refine HJ2a.out.mono ?_
    rintro e w4 ⟨⟨vk, rfl, _, hk1⟩, hb4⟩
    have HB4 := Lib.hid (onF HB3.out hb4)
    have r0 := keepF hb4 r0
    have r1 := keepF hb4 r1
    have r2 := keepF hb4 r2
    have HJo := Lib.hid (fun h => (HJb.out h).grown hb4)
    obtain ⟨j2, hj⟩ : ∃ j, j = jnK (whenN day) [t] := ⟨_, rfl⟩
    rw [← hj] at hk1 ⊢
    have HK := Lib.hid hj
    have HKb := Lib.hid hk1
    clear hb4 hj hk1 HJ2a HJb
    by_cases e1 : j1 = 0
    · by_cases e2 : j2 = 0
      · subst e1 e2
        have HKo := Lib.hid (HKb.out (by first | rfl | trivial))
        have HOj := Lib.hid (HJo.out (by first | rfl | trivial))
        have HEbb := Lib.hid (HEb.out (by first | exact HJ.out.symm | exact HJ.out))
        have HF1 := Lib.hid (HRun.out w4 HB4.out t (by omega) HBd.out.1 _ (HS2.out.1.keep HB4.out) fr)
        have HF2 := Lib.hid (fun (w' : World) (hb : Below w4.heap.size w4 w') => HRun.out w' (onF HB4.out hb) u (by omega) HBd.out.2 _ (HS2.out.2.2.keep (onF HB4.out hb)) fr)
        have HF3 := Lib.hid (fun (w' : World) (hb : Below w4.heap.size w4 w') => HRun.out w' (onF HB4.out hb) (andN9 :: [t, u].flatten) (by simp; omega) (by have := up_bd (n := andN9) ⟨rfl, rfl⟩ (app_bd HBd.out.1 HBd.out.2); simpa using this) _ (HOj.out.grown hb).sl fr)
        unfold FloQ at HF1 HF2 HF3
        clear HKb HJo HEb
        generalize erD t (plF L) (plC L) fr tu = E1 at *
        generalize erD u (plF L) (plC L) fr tu = E2 at *
        generalize erD (andN9 :: [t, u].flatten) (plF L) (plC L) fr tu = E3 at *
        go_wp2_with fail
        refine HF1.out.mono ?_
        rintro e w5 ⟨hb5, va, ma, rfl, ho, hml, hsr, hne, hp⟩
        have HPa := Lib.hid (And.intro hml (And.intro hsr (And.intro hne hp)))
        have HOa := Lib.hid ho
        have HB5 := Lib.hid hb5
        have HF2a := Lib.hid (HF2.out w5 hb5)
        have r0 := keepF hb5 r0
        have r1 := keepF hb5 r1
        have r2 := keepF hb5 r2
        obtain ⟨aa, an, ac, han, rfl⟩ : ∃ a n c, n = ma.length ∧ va = Value.slice a n c := by
          obtain ⟨a, c, h⟩ := ho.slice
          exact ⟨a, _, c, rfl, h⟩
        clear ho hml hsr hne hp hb5 HF1 HF2 han
        go_wp2_with fail
        refine HF2a.out.mono ?_
        rintro e w6 ⟨hb6, vb, mb, rfl, ho, hml, hsr, hne, hp⟩
        have HPb := Lib.hid (And.intro hml (And.intro hsr (And.intro hne hp)))
        have HOb := Lib.hid ho
        have HB6 := Lib.hid (onF HB5.out hb6)
        have HOa6 := Lib.hid (HOa.out.grown hb6)
        have HF3a := Lib.hid (HF3.out w6 (onF HB5.out hb6))
        have r0 := keepF hb6 r0
        have r1 := keepF hb6 r1
        have r2 := keepF hb6 r2
        obtain ⟨ba, bc', rfl⟩ := ho.slice
        clear ho hml hsr hne hp hb6 HF2a HF3 HOa HB5
        go_wp2_with fail
        refine HF3a.out.mono ?_
        rintro e w7 ⟨hb7, vc, mc, rfl, ho, hml, hsr, hne, hp⟩
        have HRa := Lib.hid (OwnX.row (E := flL) (k := 3) (fun _ => rfl) (HOa6.out.grown hb7))
        have HRb := Lib.hid (OwnX.row (E := flL) (k := 3) (fun _ => rfl) (HOb.out.grown hb7))
        have HRc := Lib.hid (OwnX.row (E := flL) (k := 3) (fun _ => rfl) ho)
        have HPc := Lib.hid (And.intro hsr (And.intro hne hp))
        have HB47 := Lib.hid (onF HB6.out hb7)
        have HB27 := Lib.hid (onF HB4.out (onF HB6.out hb7))
        have r0 := keepF hb7 r0
        have r1 := keepF hb7 r1
        have r2 := keepF hb7 r2
        have HR7 := Lib.hid (And.intro r0 (And.intro r1 r2))
        have HKo := Lib.hid (HKo.out.grown (onF HB6.out hb7))
        obtain ⟨ca, cn, cc, hcn, rfl⟩ : ∃ a n c, n = mc.length ∧ vc = Value.slice a n c := by
          obtain ⟨a, c, h⟩ := ho.slice
          exact ⟨a, _, c, rfl, h⟩
        clear ho hml hsr hne hp hb7 HF3a HOa6 HOb HB6 hcn r0 r1 r2
        by_cases e3 : E3 = 0
        · obtain ⟨e1, e2⟩ := HEbb.out.1.1 e3
          have hmc : mb.foldl putF ma = mc := by
            obtain ⟨q1, q2⟩ := put_all mb ma HPa.out.2.1
            refine srF_uniq q1 HPc.out.1 (q2.trans ?_)
            have := HPc.out.2.2 e3
            rw [HEbb.out.2 e3] at this
            refine List.Perm.trans ?_ this.symm
            exact (List.Perm.append (HPb.out.2.2.2 e2) (HPa.out.2.2.2 e1)).trans List.perm_append_comm
          have HMc := Lib.hid hmc
          have HLm := Lib.hid (And.intro HPa.out.1 HPb.out.1)
          subst e1 e2 e3
          clear hmc HPa HPb HPc HEbb
          go_wp2_with (at_builtin; refine wpList_append_x (E := flL) (k := 3) (fun _ => rfl) (by decide) flL_one Tryz.underlying30 infoFl rfl (by decide) rfl _ _ rfl w7.heap.size _ [] rfl (OwnX.nil _ _ _ _ _) _ ma rfl HRa.out (by have := HLm.out.1; simp; omega) (Nat.le_refl _) ?_; intro v8 w8 ho8 hg8 hat8; rw [List.nil_append] at ho8; have HO8 := Lib.hid ho8; have HB8 : Hid (Below w7.heap.size w7 w8) := Lib.hid (Below.grown (Below.refl _ _) hg8 (Nat.le_refl _) (fun k hk => by cases hk)); obtain ⟨sb, sn, sd, hsn, rfl⟩ : ∃ a n c, n = ma.length ∧ v8 = Value.slice a n c := (by obtain ⟨a, c, h⟩ := ho8.slice; exact ⟨a, _, c, rfl, h⟩); clear ho8 hg8 hat8 hsn)
          go_loopw [19, 18] (fun vi vl wx => ∃ i : Nat, i ≤ mb.length ∧ vi = .int .i64 (i : Nat) ∧ OwnX flL 3 50 wx w7.heap.size vl ((mb.take i).foldl putF ma) ∧ Below w7.heap.size w7 wx) (fun vi _ _ => mb.length - (RowKit.intOf vi).toNat)
          case atStart => exact ⟨0, Nat.zero_le _, rfl, HO8.out, HB8.out⟩
          case round =>
            obtain ⟨i, hi, rfl, ho, hb⟩ := hrel
            have HO := Lib.hid ho
            have HB := Lib.hid hb
            by_cases hlt : i < mb.length
            · have p0 : (0 : Int) ≤ (i : Int) := by omega
              have p1 : (i : Int) < (mb.length : Int) := by omega
              have HLt := Lib.hid hlt
              obtain ⟨ga, oa, ca1, hv, hf1, hf2, hTa⟩ : ∃ g o cap, Value.slice ba mb.length bc' = .slice (some ⟨g, o, none⟩) mb.length cap ∧ mb.length ≤ cap ∧ cap ≤ 9223372036854775807 ∧ ∀ j, j < mb.length → ∀ i c, i < 3 → (flL (mb.getD j default))[i]? = some c → w7.cell? ⟨g, o + j * 3 + i, none⟩ = some c := by
                rcases HRb.out with ⟨e, _⟩ | ⟨_, g, o, cap, h1, h2, h3, h4⟩
                · rw [e] at hlt; exact absurd hlt (Nat.not_lt_zero _)
                · exact ⟨g, o, cap, h1, h2, h3, h4⟩
              injection hv with hv1 _ hv3
              subst hv1 hv3
              have k0 : wr.cell? ⟨ga, oa + i * 3, none⟩ = some (.int .i64 (mb.getD i default).d) := keepF hb (hTa i hlt 0 _ (by omega) rfl)
              have k1 : wr.cell? ⟨ga, oa + i * 3 + 1, none⟩ = some (.int .i64 (mb.getD i default).c) := keepF hb (hTa i hlt 1 _ (by omega) rfl)
              have k2 : wr.cell? ⟨ga, oa + i * 3 + 2, none⟩ = some (.int .i64 (mb.getD i default).n) := keepF hb (hTa i hlt 2 _ (by omega) rfl)
              have HTk : Hid ((mb.take (i + 1)).foldl putF ma = putF ((mb.take i).foldl putF ma) (mb.getD i default)) := Lib.hid (by rw [take_flw hlt, List.foldl_append]; rfl)
              have HPl : Hid (((mb.take i).foldl putF ma).length ≤ 1000) := Lib.hid (by rw [fold_len, List.length_take]; have := HLm.out; omega)
              generalize mb.getD i default = y at *
              have HPt := Lib.hid (put9_any wr _ HPl.out _ (OwnX.row (E := flL) (k := 3) (fun _ => rfl) ho) y)
              obtain ⟨la, ln, lc, hln, rfl⟩ : ∃ a n c, n = ((mb.take i).foldl putF ma).length ∧ u18 = Value.slice a n c := by
                obtain ⟨a, c, h⟩ := ho.slice
                exact ⟨a, _, c, rfl, h⟩
              clear hTa hlt ho hb hln
              go_wp2_with fail
              refine HPt.out.mono ?_
              rintro e w9 ⟨v9, rfl, ho9, hb9⟩
              have HO9 : Hid (OwnX flL 3 50 w9 w7.heap.size v9 ((mb.take (i + 1)).foldl putF ma)) := Lib.hid (by rw [HTk.out]; exact ho9.base HB.out.size)
              have HB9 := Lib.hid (HB.out.trans (hb9.mono HB.out.size))
              clear ho9 hb9 HPt
              go_wp2_with fail
              go_roundw
              case rel => exact ⟨i + 1, HLt.out, by go_num, HO9.out, HB9.out⟩
              case measure => have := HLt.out; simp [RowKit.intOf]; omega
            · have hie : i = mb.length := by omega
              subst hie
              have p1 : ¬ (mb.length : Int) < (mb.length : Int) := by omega
              rw [List.take_length, HMc.out] at ho
              have HWr := Lib.hid (OwnX.row (E := flL) (k := 3) (fun _ => rfl) ho)
              have HRcW := Lib.hid (HRc.out.keep hb)
              obtain ⟨la, ln, lc, hln, rfl⟩ : ∃ a n c, n = mc.length ∧ u18 = Value.slice a n c := by
                obtain ⟨a, c, h⟩ := ho.slice
                exact ⟨a, _, c, rfl, h⟩
              clear ho hb hlt hi HO HRa HRb hln
              have r0 := keepF HB.out HR7.out.1
              have r1 := keepF HB.out HR7.out.2.1
              have r2 := keepF HB.out HR7.out.2.2
              have HX1 := Lib.hid (HRun.out wr (onF HB27.out HB.out) (whenN day :: [t].flatten) (by simp; omega) (by have := up_bd (n := whenN day) ⟨rfl, rfl⟩ HBd.out.1; simpa using this) _ ((HKo.out.grown HB.out).sl) fr)
              have HX2 := Lib.hid (fun (w' : World) (hb : Below wr.heap.size wr w') => HRun.out w' (onF (onF HB27.out HB.out) hb) t (by omega) HBd.out.1 _ (HS2.out.1.keep (onF (onF HB27.out HB.out) hb)) day)
              unfold FloQ at HX1 HX2
              have HEww := Lib.hid (HEw.out (by first | exact HK.out.symm | exact HK.out))
              generalize erD (whenN day :: [t].flatten) (plF L) (plC L) fr tu = E4 at *
              generalize erD t (plF L) (plC L) day tu = E5 at *
              go_wp2_with fail
              refine HX1.out.mono ?_
              rintro e wA ⟨hbA, vx, mx, rfl, hox, hmlx, hsrx, hnex, hpx⟩
              have HPx := Lib.hid (And.intro hsrx (And.intro hnex hpx))
              have HOx := Lib.hid hox
              have HBA := Lib.hid hbA
              have HX2a := Lib.hid (HX2.out wA hbA)
              have r0 := keepF hbA r0
              have r1 := keepF hbA r1
              have r2 := keepF hbA r2
              obtain ⟨xa, xn, xc, hxn, rfl⟩ : ∃ a n c, n = mx.length ∧ vx = Value.slice a n c := by
                obtain ⟨a, c, h⟩ := hox.slice
                exact ⟨a, _, c, rfl, h⟩
              clear hox hmlx hsrx hnex hpx hbA HX1 HX2 hxn
              go_wp2_with fail
              refine HX2a.out.mono ?_
              rintro e wB ⟨hbB, vy, my, rfl, hoy, hmly, hsry, hney, hpy⟩
              have hbAB := onF HBA.out hbB
              have r1 := keepF hbB r1
              have HBB := Lib.hid (onF (onF HB2.out HB27.out) (onF HB.out hbAB))
              have HEq1 := Lib.hid (flows_eq wB mc _ _ (HRcW.out.keep hbAB) (HWr.out.keep hbAB))
              by_cases hdf : day < fr
              · have hmx : mx = [] := by
                  by_cases hE : E4 = 0
                  · have := HPx.out.2.2 hE
                    rw [HEww.out.2 (by omega) hE] at this
                    exact this.eq_nil
                  · exact HPx.out.2.1 hE
                subst hmx
                have HEq2 := Lib.hid (fun (w' : World) (hb : Below wB.heap.size wB w') => flows_eq w' [] _ _ (OwnX.row (E := flL) (k := 3) (fun _ => rfl) ((HOx.out.grown hbB).grown hb)) (OwnX.row (E := flL) (k := 3) (fun _ => rfl) (OwnX.nil flL 3 50 w' 0)))
                clear hoy hmly hsry hney hpy hbAB hbB HX2a HPx r0 r2
                go_wp2_with fail
                refine HEq1.out.mono ?_
                rintro e wC ⟨rfl, hbC⟩
                have HBC := Lib.hid (onF HBB.out hbC)
                have HEq2a := Lib.hid (HEq2.out wC hbC)
                clear hbC HEq1 HEq2 r1
                go_wp2_with fail
                refine HEq2a.out.mono ?_
                rintro e wD ⟨rfl, hbD⟩
                have HBD := Lib.hid (onF HBC.out hbD)
                clear hbD HEq2a
                go_wp2_with fail
                refine (HAw.out _ HBD.out).mono ?_
                rintro e wE ⟨rfl, hbE⟩
                have HBE := Lib.hid (onF HBD.out hbE)
                clear hbE
                go_wp2_with fail
                go_ret
                exact ⟨rfl, HBE.out⟩
              · obtain ⟨hE45, hR45⟩ := HEww.out.1 (by omega)
                subst hE45
                have hxy : mx = my := by
                  by_cases hE : E4 = 0
                  · refine srF_uniq HPx.out.1 hsry ((HPx.out.2.2 hE).trans ?_)
                    rw [hR45 hE]
                    exact (hpy hE).symm
                  · rw [HPx.out.2.1 hE, hney hE]
                subst hxy
                have HEq2 := Lib.hid (fun (w' : World) (hb : Below wB.heap.size wB w') => flows_eq w' mx _ _ (OwnX.row (E := flL) (k := 3) (fun _ => rfl) ((HOx.out.grown hbB).grown hb)) (OwnX.row (E := flL) (k := 3) (fun _ => rfl) (hoy.grown hb)))
                obtain ⟨ya, yn, yc, hyn, rfl⟩ : ∃ a n c, n = mx.length ∧ vy = Value.slice a n c := by
                  obtain ⟨a, c, h⟩ := hoy.slice
                  exact ⟨a, _, c, rfl, h⟩
                clear hoy hmly hsry hney hpy hbAB hbB HX2a HPx r0 r2 hyn hR45
                go_wp2_with fail
                refine HEq1.out.mono ?_
                rintro e wC ⟨rfl, hbC⟩
                have HBC := Lib.hid (onF HBB.out hbC)
                have HEq2a := Lib.hid (HEq2.out wC hbC)
                clear hbC HEq1 HEq2 r1
                go_wp2_with fail
                refine HEq2a.out.mono ?_
                rintro e wD ⟨rfl, hbD⟩
                have HBD := Lib.hid (onF HBC.out hbD)
                clear hbD HEq2a
                go_wp2_with fail
                refine (HAw.out _ HBD.out).mono ?_
                rintro e wE ⟨rfl, hbE⟩
                have HBE := Lib.hid (onF HBD.out hbE)
                clear hbE
                go_wp2_with fail
                go_ret
                exact ⟨rfl, HBE.out⟩
        · have hmc := HPc.out.2.1 e3
          subst hmc
          have e3' : (E3 == 0) = false := beq_false_of_ne e3
          have HBw := Lib.hid (Below.refl w7.heap.size w7)
          have HWr := Lib.hid (OwnX.row (E := flL) (k := 3) (fun _ => rfl) (OwnX.nil flL 3 50 w7 0))
          have hn : ¬ (E1 = 0 ∧ E2 = 0) := fun h => e3 (HEbb.out.1.2 h)
          by_cases e1 : E1 = 0
          · have e2' : (E2 == 0) = false := beq_false_of_ne (fun h => hn ⟨e1, h⟩)
            subst e1
            clear hn e3 HEbb HPa HPb HPc HRa HRb
            have r0 := keepF HBw.out HR7.out.1
            have r1 := keepF HBw.out HR7.out.2.1
            have r2 := keepF HBw.out HR7.out.2.2
            have HX1 := Lib.hid (HRun.out w7 (onF HB27.out HBw.out) (whenN day :: [t].flatten) (by simp; omega) (by have := up_bd (n := whenN day) ⟨rfl, rfl⟩ HBd.out.1; simpa using this) _ ((HKo.out.grown HBw.out).sl) fr)
            have HX2 := Lib.hid (fun (w' : World) (hb : Below w7.heap.size w7 w') => HRun.out w' (onF (onF HB27.out HBw.out) hb) t (by omega) HBd.out.1 _ (HS2.out.1.keep (onF (onF HB27.out HBw.out) hb)) day)
            unfold FloQ at HX1 HX2
            have HEww := Lib.hid (HEw.out (by first | exact HK.out.symm | exact HK.out))
            generalize erD (whenN day :: [t].flatten) (plF L) (plC L) fr tu = E4 at *
            generalize erD t (plF L) (plC L) day tu = E5 at *
            go_wp2_with fail
            refine HX1.out.mono ?_
            rintro e wA ⟨hbA, vx, mx, rfl, hox, hmlx, hsrx, hnex, hpx⟩
            have HPx := Lib.hid (And.intro hsrx (And.intro hnex hpx))
            have HOx := Lib.hid hox
            have HBA := Lib.hid hbA
            have HX2a := Lib.hid (HX2.out wA hbA)
            have r0 := keepF hbA r0
            have r1 := keepF hbA r1
            have r2 := keepF hbA r2
            obtain ⟨xa, xn, xc, hxn, rfl⟩ : ∃ a n c, n = mx.length ∧ vx = Value.slice a n c := by
              obtain ⟨a, c, h⟩ := hox.slice
              exact ⟨a, _, c, rfl, h⟩
            clear hox hmlx hsrx hnex hpx hbA HX1 HX2 hxn
            go_wp2_with fail
            refine HX2a.out.mono ?_
            rintro e wB ⟨hbB, vy, my, rfl, hoy, hmly, hsry, hney, hpy⟩
            have hbAB := onF HBA.out hbB
            have r1 := keepF hbB r1
            have HBB := Lib.hid (onF (onF HB2.out HB27.out) (onF HBw.out hbAB))
            have HEq1 := Lib.hid (flows_eq wB [] _ _ (HRc.out.keep hbAB) (HWr.out.keep hbAB))
            by_cases hdf : day < fr
            · have hmx : mx = [] := by
                by_cases hE : E4 = 0
                · have := HPx.out.2.2 hE
                  rw [HEww.out.2 (by omega) hE] at this
                  exact this.eq_nil
                · exact HPx.out.2.1 hE
              subst hmx
              have HEq2 := Lib.hid (fun (w' : World) (hb : Below wB.heap.size wB w') => flows_eq w' [] _ _ (OwnX.row (E := flL) (k := 3) (fun _ => rfl) ((HOx.out.grown hbB).grown hb)) (OwnX.row (E := flL) (k := 3) (fun _ => rfl) (OwnX.nil flL 3 50 w' 0)))
              clear hoy hmly hsry hney hpy hbAB hbB HX2a HPx r0 r2
              go_wp2_with fail
              refine HEq1.out.mono ?_
              rintro e wC ⟨rfl, hbC⟩
              have HBC := Lib.hid (onF HBB.out hbC)
              have HEq2a := Lib.hid (HEq2.out wC hbC)
              clear hbC HEq1 HEq2 r1
              go_wp2_with fail
              refine HEq2a.out.mono ?_
              rintro e wD ⟨rfl, hbD⟩
              have HBD := Lib.hid (onF HBC.out hbD)
              clear hbD HEq2a
              go_wp2_with fail
              refine (HAw.out _ HBD.out).mono ?_
              rintro e wE ⟨rfl, hbE⟩
              have HBE := Lib.hid (onF HBD.out hbE)
              clear hbE
              go_wp2_with fail
              go_ret
              exact ⟨rfl, HBE.out⟩
            · obtain ⟨hE45, hR45⟩ := HEww.out.1 (by omega)
              subst hE45
              have hxy : mx = my := by
                by_cases hE : E4 = 0
                · refine srF_uniq HPx.out.1 hsry ((HPx.out.2.2 hE).trans ?_)
                  rw [hR45 hE]
                  exact (hpy hE).symm
                · rw [HPx.out.2.1 hE, hney hE]
              subst hxy
              have HEq2 := Lib.hid (fun (w' : World) (hb : Below wB.heap.size wB w') => flows_eq w' mx _ _ (OwnX.row (E := flL) (k := 3) (fun _ => rfl) ((HOx.out.grown hbB).grown hb)) (OwnX.row (E := flL) (k := 3) (fun _ => rfl) (hoy.grown hb)))
              obtain ⟨ya, yn, yc, hyn, rfl⟩ : ∃ a n c, n = mx.length ∧ vy = Value.slice a n c := by
                obtain ⟨a, c, h⟩ := hoy.slice
                exact ⟨a, _, c, rfl, h⟩
              clear hoy hmly hsry hney hpy hbAB hbB HX2a HPx r0 r2 hyn hR45
              go_wp2_with fail
              refine HEq1.out.mono ?_
              rintro e wC ⟨rfl, hbC⟩
              have HBC := Lib.hid (onF HBB.out hbC)
              have HEq2a := Lib.hid (HEq2.out wC hbC)
              clear hbC HEq1 HEq2 r1
              go_wp2_with fail
              refine HEq2a.out.mono ?_
              rintro e wD ⟨rfl, hbD⟩
              have HBD := Lib.hid (onF HBC.out hbD)
              clear hbD HEq2a
              go_wp2_with fail
              refine (HAw.out _ HBD.out).mono ?_
              rintro e wE ⟨rfl, hbE⟩
              have HBE := Lib.hid (onF HBD.out hbE)
              clear hbE
              go_wp2_with fail
              go_ret
              exact ⟨rfl, HBE.out⟩
          · have e1' : (E1 == 0) = false := beq_false_of_ne e1
            clear hn e1 e3 HEbb HPa HPb HPc HRa HRb
            have r0 := keepF HBw.out HR7.out.1
            have r1 := keepF HBw.out HR7.out.2.1
            have r2 := keepF HBw.out HR7.out.2.2
            have HX1 := Lib.hid (HRun.out w7 (onF HB27.out HBw.out) (whenN day :: [t].flatten) (by simp; omega) (by have := up_bd (n := whenN day) ⟨rfl, rfl⟩ HBd.out.1; simpa using this) _ ((HKo.out.grown HBw.out).sl) fr)
            have HX2 := Lib.hid (fun (w' : World) (hb : Below w7.heap.size w7 w') => HRun.out w' (onF (onF HB27.out HBw.out) hb) t (by omega) HBd.out.1 _ (HS2.out.1.keep (onF (onF HB27.out HBw.out) hb)) day)
            unfold FloQ at HX1 HX2
            have HEww := Lib.hid (HEw.out (by first | exact HK.out.symm | exact HK.out))
            generalize erD (whenN day :: [t].flatten) (plF L) (plC L) fr tu = E4 at *
            generalize erD t (plF L) (plC L) day tu = E5 at *
            go_wp2_with fail
            refine HX1.out.mono ?_
            rintro e wA ⟨hbA, vx, mx, rfl, hox, hmlx, hsrx, hnex, hpx⟩
            have HPx := Lib.hid (And.intro hsrx (And.intro hnex hpx))
            have HOx := Lib.hid hox
            have HBA := Lib.hid hbA
            have HX2a := Lib.hid (HX2.out wA hbA)
            have r0 := keepF hbA r0
            have r1 := keepF hbA r1
            have r2 := keepF hbA r2
            obtain ⟨xa, xn, xc, hxn, rfl⟩ : ∃ a n c, n = mx.length ∧ vx = Value.slice a n c := by
              obtain ⟨a, c, h⟩ := hox.slice
              exact ⟨a, _, c, rfl, h⟩
            clear hox hmlx hsrx hnex hpx hbA HX1 HX2 hxn
            go_wp2_with fail
            refine HX2a.out.mono ?_
            rintro e wB ⟨hbB, vy, my, rfl, hoy, hmly, hsry, hney, hpy⟩
            have hbAB := onF HBA.out hbB
            have r1 := keepF hbB r1
            have HBB := Lib.hid (onF (onF HB2.out HB27.out) (onF HBw.out hbAB))
            have HEq1 := Lib.hid (flows_eq wB [] _ _ (HRc.out.keep hbAB) (HWr.out.keep hbAB))
            by_cases hdf : day < fr
            · have hmx : mx = [] := by
                by_cases hE : E4 = 0
                · have := HPx.out.2.2 hE
                  rw [HEww.out.2 (by omega) hE] at this
                  exact this.eq_nil
                · exact HPx.out.2.1 hE
              subst hmx
              have HEq2 := Lib.hid (fun (w' : World) (hb : Below wB.heap.size wB w') => flows_eq w' [] _ _ (OwnX.row (E := flL) (k := 3) (fun _ => rfl) ((HOx.out.grown hbB).grown hb)) (OwnX.row (E := flL) (k := 3) (fun _ => rfl) (OwnX.nil flL 3 50 w' 0)))
              clear hoy hmly hsry hney hpy hbAB hbB HX2a HPx r0 r2
              go_wp2_with fail
              refine HEq1.out.mono ?_
              rintro e wC ⟨rfl, hbC⟩
              have HBC := Lib.hid (onF HBB.out hbC)
              have HEq2a := Lib.hid (HEq2.out wC hbC)
              clear hbC HEq1 HEq2 r1
              go_wp2_with fail
              refine HEq2a.out.mono ?_
              rintro e wD ⟨rfl, hbD⟩
              have HBD := Lib.hid (onF HBC.out hbD)
              clear hbD HEq2a
              go_wp2_with fail
              refine (HAw.out _ HBD.out).mono ?_
              rintro e wE ⟨rfl, hbE⟩
              have HBE := Lib.hid (onF HBD.out hbE)
              clear hbE
              go_wp2_with fail
              go_ret
              exact ⟨rfl, HBE.out⟩
            · obtain ⟨hE45, hR45⟩ := HEww.out.1 (by omega)
              subst hE45
              have hxy : mx = my := by
                by_cases hE : E4 = 0
                · refine srF_uniq HPx.out.1 hsry ((HPx.out.2.2 hE).trans ?_)
                  rw [hR45 hE]
                  exact (hpy hE).symm
                · rw [HPx.out.2.1 hE, hney hE]
              subst hxy
              have HEq2 := Lib.hid (fun (w' : World) (hb : Below wB.heap.size wB w') => flows_eq w' mx _ _ (OwnX.row (E := flL) (k := 3) (fun _ => rfl) ((HOx.out.grown hbB).grown hb)) (OwnX.row (E := flL) (k := 3) (fun _ => rfl) (hoy.grown hb)))
              obtain ⟨ya, yn, yc, hyn, rfl⟩ : ∃ a n c, n = mx.length ∧ vy = Value.slice a n c := by
                obtain ⟨a, c, h⟩ := hoy.slice
                exact ⟨a, _, c, rfl, h⟩
              clear hoy hmly hsry hney hpy hbAB hbB HX2a HPx r0 r2 hyn hR45
              go_wp2_with fail
              refine HEq1.out.mono ?_
              rintro e wC ⟨rfl, hbC⟩
              have HBC := Lib.hid (onF HBB.out hbC)
              have HEq2a := Lib.hid (HEq2.out wC hbC)
              clear hbC HEq1 HEq2 r1
              go_wp2_with fail
              refine HEq2a.out.mono ?_
              rintro e wD ⟨rfl, hbD⟩
              have HBD := Lib.hid (onF HBC.out hbD)
              clear hbD HEq2a
              go_wp2_with fail
              refine (HAw.out _ HBD.out).mono ?_
              rintro e wE ⟨rfl, hbE⟩
              have HBE := Lib.hid (onF HBD.out hbE)
              clear hbE
              go_wp2_with fail
              go_ret
              exact ⟨rfl, HBE.out⟩
      · subst e1
        have e2' : ((j2 : Int) != 0) = true := bne_iff_ne.2 (by omega)
        have e2'' : ((j2 : Int) == 0) = false := beq_false_of_ne (by omega)
        clear e2 r0 r1 r2
        go_wp2_with fail
        refine (HAw.out _ (onF HB2.out HB4.out)).mono ?_
        rintro e w5 ⟨rfl, hb5⟩
        have HB5 := Lib.hid (onF (onF HB2.out HB4.out) hb5)
        clear hb5
        go_wp2_with fail
        go_ret
        exact ⟨rfl, HB5.out⟩
    · have e1' : ((j1 : Int) != 0) = true := bne_iff_ne.2 (by omega)
      have e1'' : ((j1 : Int) == 0) = false := beq_false_of_ne (by omega)
      clear e1 r0 r1 r2
      go_wp2_with fail
      refine (HAw.out _ (onF HB2.out HB4.out)).mono ?_
      rintro e w5 ⟨rfl, hb5⟩
      have HB5 := Lib.hid (onF (onF HB2.out HB4.out) hb5)
      clear hb5
      go_wp2_with fail
      go_ret
      exact ⟨rfl, HB5.out⟩

end Go.Proofs.YtjafbfepdmgjnaaGreatDoor

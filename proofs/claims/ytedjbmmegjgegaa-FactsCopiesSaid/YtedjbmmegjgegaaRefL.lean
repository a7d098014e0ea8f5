/-
  chattelref01's Parts: its contract.
-/
import Derived.Test.YtedjbmmegjgegaaRefK
namespace Go.Proofs.Ytedjbmmegjgegaa
open Go.RowKit
set_option linter.unusedVariables false

theorem own_lit1 (w : World) (u : Int) : Own (w.alloc (.cells #[.int .i64 u] 3)) w.heap.size (.slice (some ⟨w.heap.size, 0, none⟩) 1 1) [u] := by
  have h := World.ownsRow_lit (base := w.heap.size) (e := 3) (size := 1) w #[.int .i64 u] 1 (Nat.le_refl _) (by unfold maxLen; omega) rfl
  exact h
theorem own_cons {w' : World} {base : Nat} {v' : Value} {l : List Int} {u : Int} {n : Nat} (h : w'.ownsRow base 3 1 v' ([u].length + n) ([u].map (Value.int .i64) ++ l.map (Value.int .i64))) (hn : n = l.length) : Own w' base v' (u :: l) := by
  unfold Own
  subst hn
  rw [show (u :: l).length = [u].length + l.length from by simp; omega]
  exact h

theorem cons_len (u : Int) {n : Nat} {l : List Int} (h : n = l.length) : (u :: l).length = 1 + n := by rw [h]; simp; omega

theorem len_next {R Y m : Nat} {u : Int} (hRY : R < Y) (hm : m = (bitsN Y).length) (hu : u = 0 ∨ u = 1) : (bitsN (u.toNat + 2 * R)).length ≤ m + 1 := by
  have h1 := bitsN_lt (n := Y) (k := m) (by omega)
  apply bitsN_len
  rw [Nat.pow_succ]
  omega

/-- The call of trim in a round. -/
theorem parts_trim {w1 : World} {base : Nat} {va : Option Addr} {vc n : Nat} {u : Int} {R : Nat} (ho : Own w1 base (.slice va (1 + n) vc) (u :: bitsN R)) (hn : n = (bitsN R).length) (hu : u = 0 ∨ u = 1) (hn1 : n ≤ 100000) :
    Calls Try.prog 64 #[.slice va (1 + n) vc] w1 fun e w' => (∃ k, e = .returned (.slice va k vc) ∧ SL w1 (.slice va k vc) (bitsN (u.toNat + 2 * R))) ∧ w' = w1 := by
  obtain ⟨a1, c1, e1, h1, h2, h3⟩ := ho.sl
  have hl : (u :: bitsN R).length = 1 + n := by rw [hn]; simp; omega
  injection e1 with e1 _ e3
  subst e1; subst e3
  have := trim_at (u :: bitsN R) va vc w1 h3 (IsBits.cons hu (bits_of_bitsN R)) h1 h2 (by omega)
  rw [hl, show val (u :: bitsN R) = u.toNat + 2 * R from by show u.toNat + 2 * val (bitsN R) = _; rw [val_bitsN]] at this
  exact this

/-- Where a slice lies. -/
def LocR (B : Nat) (a : Option Addr) : Prop := ∀ ad, a = some ad → B ≤ ad.block
theorem LocR.none (B : Nat) : LocR B none := by intro ad e; cases e
theorem LocR.of_own {w : World} {base B : Nat} {a : Option Addr} {n c : Nat} {l : List Int} (h : Own w base (.slice a n c) l) (hB : B ≤ base) : LocR B a := fun ad e => Nat.le_trans hB (own_loc h rfl ad e)
theorem SL.setFar {w : World} {a : Option Addr} {n c : Nat} {l : List Int} {B : Nat} (h : SL w (.slice a n c) l) (hl : LocR B a) {p : Addr} (hp : p.block < B) (v : Value) : SL (w.setCell p v) (.slice a n c) l := by
  obtain ⟨a', c', e, h1, h2, h3⟩ := h
  injection e with e1 e2 e3
  subst e1; subst e3
  refine ⟨a, c, by rw [e2], h1, h2, ?_⟩
  rcases h3 with h3 | ⟨b, o, rfl, h4, h5⟩
  · exact Or.inl h3
  · refine Or.inr ⟨b, o, rfl, by simpa using h4, fun t ht => ?_⟩
    have := hl _ rfl
    rw [cell_other (fun e => by rw [e] at hp; exact absurd hp (Nat.not_lt.2 this))]
    exact h5 t ht
theorem SL.len {w : World} {a : Option Addr} {n c : Nat} {l : List Int} (h : SL w (.slice a n c) l) : n = l.length ∧ SLF w a l := by
  obtain ⟨a', c', e, h1, h2, h3⟩ := h
  injection e with e1 e2 e3
  subst e1
  exact ⟨e2, h3⟩
theorem parts_ord {w1 : World} {va b : Option Addr} {k1 vc m d R Y : Nat} (hs : SL w1 (.slice va k1 vc) (bitsN R)) (hb : SLF w1 b (bitsN Y)) (hm : m = (bitsN Y).length) (lm : m ≤ 1000) (lk : k1 ≤ 100000) :
    Calls Try.prog 65 #[.slice va k1 vc, .slice b m d] w1 fun e w' => e = .returned (.int .i64 (ordZ R Y)) ∧ ∃ q, w' = w1.drewN q := by
  obtain ⟨h1, h2⟩ := hs.len
  subst h1; subst hm
  exact ord_any R Y va b vc d w1 h2 hb (by omega) (by omega)
theorem parts_minus {w1 : World} {va b : Option Addr} {k1 vc m d R Y : Nat} (hs : SL w1 (.slice va k1 vc) (bitsN R)) (hb : SLF w1 b (bitsN Y)) (hm : m = (bitsN Y).length) (lm : m ≤ 1000) (lk : k1 ≤ 100000) (hge : Y ≤ R) :
    Calls Try.prog 66 #[.slice va k1 vc, .slice b m d] w1 (MinusAt (R - Y) w1) := by
  obtain ⟨h1, h2⟩ := hs.len
  subst h1; subst hm
  have := minus_at (bitsN R) (bitsN Y) va b vc d w1 h2 hb (bits_of_bitsN _) (bits_of_bitsN _) (by omega) (by omega) (by rw [val_bitsN, val_bitsN]; exact hge)
  rw [val_bitsN, val_bitsN] at this
  exact this

theorem two_stored {w : World} {H : Nat} {a : Option Addr} {n c : Nat} {b : Option Addr} {m d : Nat} {ql : List Int} {w0 : World} (hp : PartsW w0 w a n c b m d ql) (hH : H = w0.heap.size) {v : Value} {l : List Int} (h : SL w v l) (x0 x1 x2 x3 : Value) :
    SL ((((w.setCell ⟨H + 1 + 1, 0, none⟩ x0).setCell ⟨H + 1 + 1, 1, none⟩ x1).setCell ⟨H + 1 + 1 + 1, 0, none⟩ x2).setCell ⟨H + 1 + 1 + 1, 1, none⟩ x3) v l := by
  subst hH
  refine (((h.setCell hp.r0 (by intro n; simp) _).setCell (u := .slice none 0 0) ?_ (by intro n; simp) _).setCell (u := .bool false) ?_ (by intro n; simp) _).setCell (u := .slice none 0 0) ?_ (by intro n; simp) _
  · rw [cell_other (by intro e; simp at e)]; exact hp.r1
  · rw [cell_other (by intro e; simp at e), cell_other (by intro e; simp at e)]; exact hp.s0
  · rw [cell_other (by intro e; simp at e), cell_other (by intro e; simp at e), cell_other (by intro e; simp at e)]; exact hp.s1
theorem big_nat {w : World} {v : Value} {x : Nat} (h : SL w v (bitsN x)) : BigV w (.agg #[.bool false, v]) (x : Int) :=
  ⟨v, by rw [show decide ((x : Int) < 0) = false from decide_eq_false (by omega)], by rw [Int.natAbs_natCast]; exact h⟩

/-- What Parts leaves. -/
def PartsPost (x y : Nat) (w : World) (e : Ending) (w' : World) : Prop := ∃ v v', e = .returned (.tuple #[v, v']) ∧ BigV w' v ((x / y : Nat) : Int) ∧ BigV w' v' ((x % y : Nat) : Int) ∧ Below w.heap.size w w'
/-- The same, and where what is left lies. -/
def PartsPostL (x y : Nat) (w : World) (e : Ending) (w' : World) : Prop := ∃ v v', e = .returned (.tuple #[v, v']) ∧ BigV w' v ((x / y : Nat) : Int) ∧ BigV w' v' ((x % y : Nat) : Int) ∧ Below w.heap.size w w' ∧ ∃ a n c, v' = .agg #[.bool false, .slice a n c] ∧ LocR w.heap.size a

set_option maxHeartbeats 4000000 in
set_option maxRecDepth 100000 in
theorem parts_mainL (X Y : Nat) (a b : Option Addr) (c d n m : Nat) (w : World) (h : SLF w a (bitsN X)) (h' : SLF w b (bitsN Y)) (hn : n = (bitsN X).length) (hm : m = (bitsN Y).length) (hY : 0 < Y) (ln : n ≤ 1000) (lm : m ≤ 1000) (sg sg' : Bool) :
    Calls Try.prog 52 #[.agg #[.bool sg, .slice a n c], .agg #[.bool sg', .slice b m d]] w (PartsPostL X Y w) := by
  have HX := Lib.hid h
  have HY := Lib.hid h'
  have HN := Lib.hid hn
  have HM := Lib.hid hm
  have HPos := Lib.hid hY
  obtain ⟨i0, hi0, hz0, hz1, hz2⟩ := info_parts Try.infoI
  have hmk := fun (w : World) => run_make_row' (P := Try.prog) 99 3 (.int .i64 0) 8 Try.underlying99 Try.infoI rfl .i64 .i64 n (by omega) (by omega) w
  clear h h' hn hm hY
  go_enter Try.func52, Try.ntmps52
  go_wp2
  go_loopw [7, 8] (fun vr vi wx => ∃ (i : Int) (ql : List Int) (ra : Option Addr) (rn rc : Nat), -1 ≤ i ∧ i < n ∧ vi = .int .i64 i ∧ vr = .slice ra rn rc ∧ SL wx (.slice ra rn rc) (bitsN (topV X i % Y)) ∧ LocR (w.heap.size + 5) ra ∧ QuoI X Y i ql ∧ PartsW w wx a n c b m d ql) (fun _ vi _ => (intOf vi + 1).toNat)
  case atStart =>
    refine ⟨(n : Int) - 1, _, none, 0, 0, by omega, by omega, by go_num, rfl, ?_, LocR.none _, QuoI.start X Y n HN.out, PartsW.start w sg a n c sg' b m d _ n⟩
    rw [topV_start X n HN.out, Nat.zero_mod, bitsN_zero]
    exact ⟨none, 0, rfl, by simp, by omega, Or.inl rfl⟩
  case round =>
    obtain ⟨i, ql, ra, rn, rc, hi0', hi1, rfl, rfl, hsl, hloc, hquo, hpw⟩ := hrel
    obtain ⟨a1, b1, r0, r1, f0, f1, s0, s1, g0, g1, qr, qf, hbel, hsz⟩ := id hpw
    by_cases c1 : 0 ≤ i
    · obtain ⟨k, rfl⟩ := Int.eq_ofNat_of_zero_le c1
      obtain ⟨bb, oo, hpa, hpb, hpr⟩ := (SLF.keep HX.out hbel).cell (t := k) (by have := HN.out; omega)
      obtain ⟨u, hu⟩ : ∃ u, u = (bitsN X).getD k 0 := ⟨_, rfl⟩
      have hcx : wr.cell? ⟨bb, oo + k, none⟩ = some (.int .i64 u) := by rw [hu]; exact hpr k (by have := HN.out; omega)
      have hu01 : u = 0 ∨ u = 1 := by rw [hu]; exact bits_of_bitsN X k
      subst hpa
      obtain ⟨R, hR⟩ : ∃ R, R = topV X k % Y := ⟨_, rfl⟩
      have hRY : R < Y := by rw [hR]; exact Nat.mod_lt _ HPos.out
      rw [← hR] at hsl
      obtain ⟨hrn, hrf⟩ := hsl.len
      have hrm : rn ≤ m := by rw [hrn]; exact bitsN_len m R (Nat.lt_of_lt_of_le (Nat.lt_trans hRY (bitsN_lt (n := Y) (k := m) (by have := HM.out; omega))) (Nat.le_refl _))
      have HLen : Hid ((bitsN (u.toNat + 2 * R)).length ≤ 100000) := Lib.hid (Nat.le_trans (len_next hRY HM.out hu01) (by omega))
      have HR := Lib.hid hR
      have HU := Lib.hid hu
      have HQuo := Lib.hid hquo
      have HRn := Lib.hid hrn
      have HRf := Lib.hid (hrf.keep (Below.alloc (Below.refl _ wr) (Nat.le_refl _) (.cells #[.int .i64 u] 3)))
      have HPW := Lib.hid hpw
      have HU01 := Lib.hid hu01
      have HLit := Lib.hid (own_lit1 wr u)
      have i1 : (k : Int) < (n : Int) := by omega
      clear hR hu hquo hrn hrf hsl hloc hpw hbel hu01 hpr hpb hRY qr qf
      rcases ra with _ | ad
      · have hx0 : bitsN R = [] := by
          rcases HRf.out with g | ⟨_, _, g, _⟩
          · exact g
          · cases g
        obtain rfl : rn = 0 := by rw [HRn.out, hx0]; rfl
        have HT := Lib.hid (parts_trim (n := 0) (u := u) (R := R) (by rw [hx0]; exact HLit.out) (by rw [hx0]; rfl) HU01.out (by omega))
        have HPW1 := Lib.hid (HPW.out.keep (Below.alloc (Below.refl _ wr) (Nat.le_refl _) (.cells #[.int .i64 u] 3)))
        have HLoc : Hid (LocR (w.heap.size + 5) (some ⟨wr.heap.size, 0, none⟩)) := Lib.hid (LocR.of_own HLit.out hsz)
        clear hx0
        go_wp2_with (at_builtin; refine wpList_append_none_any rfl _ _ 99 rfl wr.heap.size 3 i0 1 Try.underlying99 hi0 _ _ rc _ rfl HLit.out rfl ?_)
        refine HT.out.mono ?_
        rintro e w' ⟨⟨k1, rfl, hs1⟩, rfl⟩
        have hk1 : k1 ≤ 100000 := by have := hs1.len.1; have := HLen.out; omega
        have HS1 := Lib.hid hs1
        have HO := Lib.hid (parts_ord (d := d) hs1 (HY.out.keep HPW1.out.bel) HM.out lm hk1)
        have HMi := Lib.hid (fun q (hge : Y ≤ u.toNat + 2 * R) => parts_minus (d := d) (hs1.keep (drewN_below' _ q)) ((HY.out.keep HPW1.out.bel).keep (drewN_below' _ q)) HM.out lm hk1 hge)
        obtain ⟨a1, b1, r0, r1, f0, f1, s0, s1, g0, g1, qr, qf, hbel, hsz⟩ := id HPW1.out
        clear hs1 hbel
        by_cases hlt : u.toNat + 2 * R < Y
        · have ho : ordZ (u.toNat + 2 * R) Y = -1 := by unfold ordZ; rw [if_pos hlt]
          rw [ho] at HO
          have HQ := Lib.hid (HQuo.out.zero HPos.out (by rw [← HU.out, ← HR.out]; exact hlt))
          clear hlt ho
          go_wp2_with fail
          refine HO.out.mono ?_
          rintro e w2 ⟨rfl, q, rfl⟩
          go_wp2
          go_roundw
          case rel => exact ⟨(k : Int) - 1, ql, _, k1, _, by omega, by omega, rfl, rfl, by rw [HQ.out.2, ← HU.out, ← HR.out]; exact HS1.out.keep (drewN_below' _ q), HLoc.out, HQ.out.1, HPW1.out.keep (drewN_below' _ q)⟩
          case measure => simp [intOf]
        · obtain ⟨o, ho, o0⟩ : ∃ o, ordZ (u.toNat + 2 * R) Y = o ∧ 0 ≤ o := ⟨_, rfl, by unfold ordZ; rw [if_neg hlt]; split <;> omega⟩
          rw [ho] at HO
          have HQ := Lib.hid (HQuo.out.one HPos.out (by have := HN.out; omega) (by rw [← HU.out, ← HR.out]; omega))
          have HG : Hid (Y ≤ u.toNat + 2 * R) := Lib.hid (by omega)
          clear hlt ho
          go_wp2_with fail
          refine HO.out.mono ?_
          rintro e w2 ⟨rfl, q, rfl⟩
          go_wp2_with fail
          refine (HMi.out q HG.out).mono ?_
          rintro e w3 ⟨a2, n2, c2, rfl, hs2, hb2, hloc2⟩
          have HPW2 := Lib.hid (HPW1.out.keep (Below.trans (drewN_below' _ q) hb2))
          obtain ⟨a1, b1, r0, r1, f0, f1, s0, s1, g0, g1, qr, qf, hbel, hsz⟩ := id HPW2.out
          have hkq : k < ql.length := by rw [HQuo.out.len, ← HN.out]; omega
          have hq0 := qr k hkq
          rw [Nat.zero_add] at hq0
          have hqf := qf k
          have HS2 := Lib.hid (hs2.setFar (B := w.heap.size + 5) (fun ad e => Nat.le_trans HPW1.out.sz (hloc2 ad e)) (p := ⟨w.heap.size + 1 + 1 + 1 + 1, k, none⟩) (by show w.heap.size + 1 + 1 + 1 + 1 < _; omega) (.int .i64 1))
          have HL2 : Hid (LocR (w.heap.size + 5) a2) := Lib.hid (fun ad e => Nat.le_trans HPW1.out.sz (hloc2 ad e))
          have HP3 := Lib.hid (HPW2.out.store hkq 1)
          clear hs2 hb2 hloc2 hbel qr qf
          go_wp2
          go_roundw
          case rel => exact ⟨(k : Int) - 1, _, a2, n2, c2, by omega, by omega, rfl, rfl, by rw [HQ.out.2, ← HU.out, ← HR.out]; exact HS2.out, HL2.out, HQ.out.1, HP3.out⟩
          case measure => simp [intOf]
      · have HNews := Lib.hid (slf_news HRf.out)
        have h63 : [u].length + rn ≤ maxLen := by unfold maxLen; simp; omega
        have hby : ([u].length + rn) * 8 ≤ 140737488355328 := by simp; omega
        go_wp2_with (at_builtin; refine wpList_append_own _ rfl _ _ 99 rfl wr.heap.size 3 i0 (.int .i64 0) 1 8 Try.underlying99 hi0 hz0 hz1 hz2 rfl (by decide) _ _ _ rfl HLit.out ad rn rc ((bitsN R).map (Value.int .i64)) rfl (by simp; exact HRn.out.symm) HNews.out (news_one _) h63 hby (by simp) ?_; intro v' w1 hown' hgrow _; have HPW1 := Lib.hid (HPW.out.keep (below_app hgrow)); have ho1 := own_cons hown' HRn.out; obtain ⟨va', vc', hve', _, _, _⟩ := ho1.sl; have hl1 := cons_len u HRn.out; rw [hl1] at hve'; subst hve'; have HT := Lib.hid (parts_trim ho1 HRn.out HU01.out (by omega)); have HLoc := Lib.hid (LocR.of_own ho1 hsz); clear hown' hgrow ho1 hl1)
        refine HT.out.mono ?_
        rintro e w' ⟨⟨k1, rfl, hs1⟩, rfl⟩
        have hk1 : k1 ≤ 100000 := by have := hs1.len.1; have := HLen.out; omega
        have HS1 := Lib.hid hs1
        have HO := Lib.hid (parts_ord (d := d) hs1 (HY.out.keep HPW1.out.bel) HM.out lm hk1)
        have HMi := Lib.hid (fun q (hge : Y ≤ u.toNat + 2 * R) => parts_minus (d := d) (hs1.keep (drewN_below' _ q)) ((HY.out.keep HPW1.out.bel).keep (drewN_below' _ q)) HM.out lm hk1 hge)
        obtain ⟨a1, b1, r0, r1, f0, f1, s0, s1, g0, g1, qr, qf, hbel, hsz⟩ := id HPW1.out
        clear hs1 hbel
        by_cases hlt : u.toNat + 2 * R < Y
        · have ho : ordZ (u.toNat + 2 * R) Y = -1 := by unfold ordZ; rw [if_pos hlt]
          rw [ho] at HO
          have HQ := Lib.hid (HQuo.out.zero HPos.out (by rw [← HU.out, ← HR.out]; exact hlt))
          clear hlt ho
          go_wp2_with fail
          refine HO.out.mono ?_
          rintro e w2 ⟨rfl, q, rfl⟩
          go_wp2
          go_roundw
          case rel => exact ⟨(k : Int) - 1, ql, _, k1, _, by omega, by omega, rfl, rfl, by rw [HQ.out.2, ← HU.out, ← HR.out]; exact HS1.out.keep (drewN_below' _ q), HLoc.out, HQ.out.1, HPW1.out.keep (drewN_below' _ q)⟩
          case measure => simp [intOf]
        · obtain ⟨o, ho, o0⟩ : ∃ o, ordZ (u.toNat + 2 * R) Y = o ∧ 0 ≤ o := ⟨_, rfl, by unfold ordZ; rw [if_neg hlt]; split <;> omega⟩
          rw [ho] at HO
          have HQ := Lib.hid (HQuo.out.one HPos.out (by have := HN.out; omega) (by rw [← HU.out, ← HR.out]; omega))
          have HG : Hid (Y ≤ u.toNat + 2 * R) := Lib.hid (by omega)
          clear hlt ho
          go_wp2_with fail
          refine HO.out.mono ?_
          rintro e w2 ⟨rfl, q, rfl⟩
          go_wp2_with fail
          refine (HMi.out q HG.out).mono ?_
          rintro e w3 ⟨a2, n2, c2, rfl, hs2, hb2, hloc2⟩
          have HPW2 := Lib.hid (HPW1.out.keep (Below.trans (drewN_below' _ q) hb2))
          obtain ⟨a1, b1, r0, r1, f0, f1, s0, s1, g0, g1, qr, qf, hbel, hsz⟩ := id HPW2.out
          have hkq : k < ql.length := by rw [HQuo.out.len, ← HN.out]; omega
          have hq0 := qr k hkq
          rw [Nat.zero_add] at hq0
          have hqf := qf k
          have HS2 := Lib.hid (hs2.setFar (B := w.heap.size + 5) (fun ad e => Nat.le_trans HPW1.out.sz (hloc2 ad e)) (p := ⟨w.heap.size + 1 + 1 + 1 + 1, k, none⟩) (by show w.heap.size + 1 + 1 + 1 + 1 < _; omega) (.int .i64 1))
          have HL2 : Hid (LocR (w.heap.size + 5) a2) := Lib.hid (fun ad e => Nat.le_trans HPW1.out.sz (hloc2 ad e))
          have HP3 := Lib.hid (HPW2.out.store hkq 1)
          clear hs2 hb2 hloc2 hbel qr qf
          go_wp2
          go_roundw
          case rel => exact ⟨(k : Int) - 1, _, a2, n2, c2, by omega, by omega, rfl, rfl, by rw [HQ.out.2, ← HU.out, ← HR.out]; exact HS2.out, HL2.out, HQ.out.1, HP3.out⟩
          case measure => simp [intOf]
    · have e : i = -1 := by omega
      subst e
      obtain ⟨d1, d2⟩ := hquo.done
      rw [d2] at hsl
      have hql : ql.length = n := by rw [hquo.len, ← HN.out]
      have ht := trim_at ql (some ⟨w.heap.size + 1 + 1 + 1 + 1, 0, none⟩) n wr (Or.inr ⟨_, _, rfl, by omega, qr⟩) hquo.bits (by omega) (by omega) (by omega)
      rw [hql, d1] at ht
      have HT := Lib.hid ht
      have HSl := Lib.hid hsl
      have HPW := Lib.hid hpw
      have HLoc : Hid (LocR w.heap.size ra) := Lib.hid (fun ad e => Nat.le_trans (by omega) (hloc ad e))
      clear ht hsl hpw hquo d1 d2 hql hbel qr qf hloc c1
      go_wp2_with fail
      refine HT.out.mono ?_
      rintro e w' ⟨⟨k1, rfl, hs1⟩, rfl⟩
      have HS1 := Lib.hid hs1
      clear hs1
      go_wp2
      exact bodyPost_ret (v := .tuple #[.agg #[.bool false, .slice (some ⟨w.heap.size + 1 + 1 + 1 + 1, 0, none⟩) k1 n], .agg #[.bool false, .slice ra rn rc]]) (by simp [results, Try.results52, go_sem, r0, r1, s0, s1]) rfl
        ⟨_, _, rfl, big_nat (two_stored HPW.out rfl HS1.out _ _ _ _), big_nat (two_stored HPW.out rfl HSl.out _ _ _ _), Below.setCell (Below.setCell (Below.setCell (Below.setCell HPW.out.bel (show w.heap.size ≤ w.heap.size + 1 + 1 by omega) _) (show w.heap.size ≤ w.heap.size + 1 + 1 by omega) _) (show w.heap.size ≤ w.heap.size + 1 + 1 + 1 by omega) _) (show w.heap.size ≤ w.heap.size + 1 + 1 + 1 by omega) _, ra, rn, rc, rfl, HLoc.out⟩

theorem parts_main (X Y : Nat) (a b : Option Addr) (c d n m : Nat) (w : World) (h : SLF w a (bitsN X)) (h' : SLF w b (bitsN Y)) (hn : n = (bitsN X).length) (hm : m = (bitsN Y).length) (hY : 0 < Y) (ln : n ≤ 1000) (lm : m ≤ 1000) (sg sg' : Bool) :
    Calls Try.prog 52 #[.agg #[.bool sg, .slice a n c], .agg #[.bool sg', .slice b m d]] w (PartsPost X Y w) :=
  (parts_mainL X Y a b c d n m w h h' hn hm hY ln lm sg sg').mono fun _ _ ⟨v, v', e, h1, h2, h3, _⟩ => ⟨v, v', e, h1, h2, h3⟩

end Go.Proofs.Ytedjbmmegjgegaa

/-
  chattellaw03: CashJoins's walk.
-/
import Derived.Test.YtadjhofomabbmaaDoorTotB
import Derived.Test.YtadjhofomabbmaaDoorCsh
namespace Go.Proofs.YtadjhofomabbmaaDoor
open Go.RowKit Go.Lib
set_option linter.unusedVariables false
set_option linter.unusedSimpArgs false

open Classical in
/-- What Totals tells. -/
noncomputable def tE (t : List Fl) : Nat := if GdC t then 0 else 10
theorem tE_zero {t : List Fl} : tE t = 0 ↔ GdC t := by
  unfold tE
  by_cases h : GdC t
  · rw [if_pos h]; exact ⟨fun _ => h, fun _ => rfl⟩
  · rw [if_neg h]; exact ⟨fun e => absurd e (by decide), fun e => absurd e h⟩
theorem tE_ten {t : List Fl} (h : tE t ≠ 0) : tE t = 10 := by
  unfold tE at h ⊢
  by_cases hg : GdC t
  · rw [if_pos hg] at h; exact absurd rfl h
  · rw [if_neg hg]
theorem tE_all (a b : List Fl) : tE (b.reverse ++ a) = 0 ↔ tE a = 0 ∧ tE b = 0 := by
  rw [tE_zero, tE_zero, tE_zero, gd_iff, gd_iff, gd_iff]
  constructor
  · intro h
    exact ⟨fun x hx => h x (List.mem_append_right _ hx), fun x hx => h x (List.mem_append_left _ (List.mem_reverse.2 hx))⟩
  · rintro ⟨h1, h2⟩ x hx
    rcases List.mem_append.1 hx with hx | hx
    · exact h2 x (List.mem_reverse.1 hx)
    · exact h1 x hx
theorem am_iff {t : List Fl} : AmB t ↔ ∀ x ∈ t, -1125899906842624 ≤ x.amt ∧ x.amt ≤ 1125899906842624 := by
  constructor
  · intro h x hx
    obtain ⟨i, hi, rfl⟩ := List.getElem_of_mem hx
    have := h i hi
    rw [List.getD_eq_getElem?_getD, List.getElem?_eq_getElem hi] at this
    exact this
  · intro h i hi
    rw [List.getD_eq_getElem?_getD, List.getElem?_eq_getElem hi]
    exact h _ (List.getElem_mem hi)
theorem am_parts {a b : List Fl} (h : AmB (b.reverse ++ a)) : AmB a ∧ AmB b := by
  rw [am_iff] at h
  exact ⟨am_iff.2 fun x hx => h x (List.mem_append_right _ hx), am_iff.2 fun x hx => h x (List.mem_append_left _ (List.mem_reverse.2 hx))⟩
theorem totals_all (t : List Fl) (hl : t.length ≤ 100) (hb : AmB t) (v : Value) (w : World) (hs : SlF w v t) :
    Calls Tryd.prog 12 #[v] w fun e w' => (∃ X : Nat → Int, e = .returned (.tuple #[.agg #[.int .i64 (X 0), .int .i64 (X 1), .int .i64 (X 2), .int .i64 (X 3), .int .i64 (X 4), .int .i64 (X 5), .int .i64 (X 6), .int .i64 (X 7)], .int .i64 (tE t)]) ∧ (tE t = 0 → ∀ c, X c = smC t c t.length)) ∧ Below w.heap.size w w' := by
  obtain ⟨a, cap, rfl⟩ := hs.slice
  refine (totals_any t hl hb a cap w hs).mono ?_
  rintro e w' ⟨⟨h1, h2⟩, hb⟩
  refine ⟨?_, hb⟩
  by_cases hg : GdC t
  · have h0 := tE_zero.2 hg
    rw [h0]
    exact ⟨fun c => smC t c t.length, h1 hg, fun _ c => rfl⟩
  · have h0 := tE_ten (fun h => hg (tE_zero.1 h))
    rw [h0]
    exact ⟨fun _ => 0, h2 hg, fun h => absurd h (by decide)⟩
/-- The last flows, the last one first. -/
theorem rev_next {b : List Fl} {k : Nat} (h : k < b.length) : b.reverse.take (k + 1) = b.reverse.take k ++ [b.getD (b.length - 1 - k) default] := by
  rw [List.take_add_one, List.getElem?_eq_getElem (by rw [List.length_reverse]; exact h), List.getElem_reverse, List.getD_eq_getElem?_getD, List.getElem?_eq_getElem (by omega)]
  rfl
theorem arr8 (w : World) (X : Nat → Int) (ty : TypeId) : ∀ c, c < 8 → (w.alloc (.cells #[.int .i64 (X 0), .int .i64 (X 1), .int .i64 (X 2), .int .i64 (X 3), .int .i64 (X 4), .int .i64 (X 5), .int .i64 (X 6), .int .i64 (X 7)] ty)).cell? ⟨w.heap.size, c, none⟩ = some (.int .i64 (X c)) := by
  intro c hc
  rw [World.cell?_alloc_at _ _ _ _ rfl]
  match c, hc with
  | 0, _ => rfl
  | 1, _ => rfl
  | 2, _ => rfl
  | 3, _ => rfl
  | 4, _ => rfl
  | 5, _ => rfl
  | 6, _ => rfl
  | 7, _ => rfl
theorem OwnF.one (w : World) (base : Nat) (n : Fl) (hb : base ≤ w.heap.size) : OwnF (w.alloc (.cells #[.int .i64 n.day, .int .i64 n.cur, .int .i64 n.amt] 25)) base (.slice (some ⟨w.heap.size, 0, none⟩) 1 1) [n] :=
  World.ownsRow_lit w #[.int .i64 n.day, .int .i64 n.cur, .int .i64 n.amt] 1 hb (by unfold maxLen; omega) rfl

set_option maxHeartbeats 2000000 in
set_option maxRecDepth 100000 in
theorem cjoins_far (a b : Option Addr) (la ca lb cb : Nat) (h : 40 < la ∨ 40 < lb) (ha : la ≤ 9223372036854775807) (hb : lb ≤ 9223372036854775807) (w : World) (L : LibW w) (C : CurW w) :
    Calls Tryd.prog 3 #[.slice a la ca, .slice b lb cb] w fun e w' => e = .returned (.bool true) ∧ Below w.heap.size w w' := by
  have HAw := Lib.hid (awakeC_any w L C)
  clear L C
  by_cases h1 : 40 < la
  · have h2 : (40 : Int) < (la : Int) := by omega
    clear h h1
    go_enter Tryd.func3, Tryd.ntmps3
    go_wp2_with fail
    refine HAw.out.mono ?_
    rintro e w1 ⟨rfl, hb⟩
    go_wp2_with fail
    go_ret
    exact ⟨rfl, hb⟩
  · have h2 : ¬ (40 : Int) < (la : Int) := by omega
    have h3 : (40 : Int) < (lb : Int) := by omega
    clear h h1
    go_enter Tryd.func3, Tryd.ntmps3
    go_wp2_with fail
    refine HAw.out.mono ?_
    rintro e w1 ⟨rfl, hb⟩
    go_wp2_with fail
    go_ret
    exact ⟨rfl, hb⟩

set_option maxHeartbeats 8000000 in
set_option maxRecDepth 100000 in
theorem cjoins_main (a b : List Fl) (ha : a.length ≤ 40) (hb : b.length ≤ 40) (hfa : ∀ x ∈ a, -9223372036854775808 ≤ x.amt ∧ x.amt ≤ 9223372036854775807) (hfb : ∀ x ∈ b, -9223372036854775808 ≤ x.amt ∧ x.amt ≤ 9223372036854775807) (aa ba : Option Addr) (ca cb : Nat) (w : World) (hsa : SlF w (.slice aa a.length ca) a) (hsb : SlF w (.slice ba b.length cb) b) (L : LibW w) (C : CurW w) :
    Calls Tryd.prog 3 #[.slice aa a.length ca, .slice ba b.length cb] w fun e w' => e = .returned (.bool true) ∧ Below w.heap.size w w' := by
  have HAw : Hid (∀ w', Below w.heap.size w w' → Calls Tryd.prog 11 #[] w' fun e w'' => e = .returned (.bool true) ∧ Below w'.heap.size w' w'') := Lib.hid (fun w' hb' => awakeC_any w' (L.keep hb') (C.keep hb'))
  have HSa := Lib.hid hsa
  have HSb := Lib.hid hsb
  have h1 : ¬ (40 : Int) < (a.length : Int) := by omega
  have h2 : ¬ (40 : Int) < (b.length : Int) := by omega
  clear L C hsa hsb
  go_enter Tryd.func3, Tryd.ntmps3
  go_wp2_with fail
  go_loopw [5, 6] (fun va vi wx => ∃ k : Nat, k ≤ b.length ∧ vi = .int .i64 ((b.length : Int) - 1 - (k : Int)) ∧ OwnF wx w.heap.size va (b.reverse.take k) ∧ Below w.heap.size w wx) (fun _ vi _ => (RowKit.intOf vi + 1).toNat)
  case atStart => exact ⟨0, Nat.zero_le _, by first | rfl | go_num, OwnF.nil _ _, Below.refl _ _⟩
  case round =>
    obtain ⟨k, hk, rfl, hot, hbx⟩ := hrel
    have HB := Lib.hid hbx
    have HT := Lib.hid hot
    by_cases hlt : k < b.length
    · have HN := Lib.hid (rev_next hlt)
      obtain ⟨p, hp⟩ : ∃ p, p = b.length - 1 - k := ⟨_, rfl⟩
      have hpi : (b.length : Int) - 1 - (k : Int) = (p : Int) := by omega
      rw [← hp] at HN
      rcases HSb.out with ⟨h, _⟩ | ⟨_, bb, o, cap', e, hc1, hc2, hN⟩
      · rw [h] at hlt; exact absurd hlt (Nat.not_lt_zero _)
      · injection e with e1 _ e3
        subst e1 e3
        obtain ⟨c0, c1, c2⟩ := (hN.keep hbx) p (by omega)
        generalize b.getD p default = f at *
        have HO1 := Lib.hid (OwnF.one wr wr.heap.size f (Nat.le_refl _)).sl
        have hsz := hbx.size
        have hlen : (b.reverse.take k).length = k := by rw [List.length_take, List.length_reverse]; omega
        have HLen := Lib.hid hlen
        have HPi := Lib.hid hpi
        have j0 : (0 : Int) ≤ (p : Int) := by omega
        have j1 : (p : Int) < (b.length : Int) := by omega
        have hl2 : (b.reverse.take k).length + [f].length ≤ 100000 := by rw [hlen]; show k + 1 ≤ _; omega
        clear hN hot hbx hlen hp
        generalize b.reverse.take k = t at *
        rw [hpi]
        clear hpi
        go_wp2_with (at_builtin; refine wpList_append_flows rfl (.tmp 31) (.tmp 36) rfl w.heap.size _ t rfl (HT.out.grown (newF _ _)) _ [f] rfl HO1.out hl2 (by first | omega | (simp; omega) | simp) ?_; intro va' w3 ho' hgr' hat'; have HB3 := Lib.hid (below_flows (onF HB.out (newF wr (.cells #[.int .i64 f.day, .int .i64 f.cur, .int .i64 f.amt] 25))) (HT.out.grown (newF _ _)) (Nat.le_refl _) (by first | omega | (simp; omega) | simp) hgr'); have HT3 := Lib.hid ho'; clear ho' hgr' hat')
        go_roundw
        case rel => exact ⟨k + 1, by omega, by have := HPi.out; go_num, by rw [HN.out]; exact HT3.out, HB3.out⟩
        case measure => have := HPi.out; first | (simp [RowKit.intOf]; done) | (simp [RowKit.intOf]; omega)
    · obtain rfl : k = b.length := by omega
      have hrl : b.reverse.take b.length = b.reverse := by
        have := List.take_length (l := b.reverse)
        rwa [List.length_reverse] at this
      rw [hrl] at HT
      have h5 : ¬ (0 : Int) ≤ (b.length : Int) - 1 - (b.length : Int) := by omega
      have hsz := hbx.size
      have HSa2 := Lib.hid (HSa.out.keep hbx)
      have hl3 : b.reverse.length + a.length ≤ 100000 := by rw [List.length_reverse]; omega
      clear hot hbx hrl
      have HTl : Hid ((b.reverse ++ a).length = b.length + a.length) := Lib.hid (by rw [List.length_append, List.length_reverse])
      have HAmp := Lib.hid (fun h => am_parts (a := a) (b := b) h)
      have HEa := Lib.hid (tE_all a b)
      have HSma := Lib.hid (fun c => smC_all b.reverse a c)
      have HSmr := Lib.hid (fun c => smC_rev c b)
      go_wp2_with (at_builtin; refine wpList_append_flows rfl (.tmp 38) (.tmp 39) rfl w.heap.size _ b.reverse rfl HT.out _ a rfl HSa2.out hl3 hsz ?_; intro va' w3 ho' hgr' hat'; generalize b.reverse ++ a = t at *; obtain ⟨av, cv, rfl⟩ := ho'.slice; have HB3 := Lib.hid (below_flows HB.out HT.out (Nat.le_refl _) hsz hgr'); have HT3 := Lib.hid ho'; clear ho' hgr' hat' hsz hl3)
      have htl : t.length ≤ 80 := by have := HTl.out; omega
      go_loopw [7] (fun vi wx => ∃ i : Nat, i ≤ t.length ∧ vi = .int .i64 i ∧ wx = w3 ∧ (∀ j, j < i → -1125899906842624 ≤ (t.getD j default).amt ∧ (t.getD j default).amt ≤ 1125899906842624)) (fun vi _ => t.length - (RowKit.intOf vi).toNat)
      case atStart => exact ⟨0, Nat.zero_le _, rfl, rfl, fun j hj => absurd hj (Nat.not_lt_zero _)⟩
      case round =>
        obtain ⟨i, hi, rfl, hw, ham⟩ := hrel
        have hw' := hw.symm
        subst hw'
        clear hw
        have HAm := Lib.hid ham
        by_cases hlt3 : i < t.length
        · rcases HT3.out.sl with ⟨h, _⟩ | ⟨_, bb, o, cap', e, hc1, hc2, hN⟩
          · rw [h] at hlt3; exact absurd hlt3 (Nat.not_lt_zero _)
          · injection e with e1 _ e3
            subst e1 e3
            obtain ⟨c0, c1, c2⟩ := hN i hlt3
            obtain ⟨f, hf⟩ : ∃ f, f = t.getD i default := ⟨_, rfl⟩
            have HF := Lib.hid hf
            rw [← hf] at c0 c1 c2
            have j0 : (0 : Int) ≤ (i : Int) := by omega
            have j1 : (i : Int) < (t.length : Int) := by omega
            clear hf hN ham
            by_cases hu : 1125899906842624 < f.amt
            · generalize f.amt = am at *
              go_wp2_with fail
              refine (HAw.out _ HB3.out).mono ?_
              rintro e w5 ⟨rfl, hb5⟩
              go_wp2_with fail
              go_ret
              exact ⟨rfl, onF HB3.out hb5⟩
            · by_cases hd : f.amt < -1125899906842624
              · generalize f.amt = am at *
                go_wp2_with fail
                refine (HAw.out _ HB3.out).mono ?_
                rintro e w5 ⟨rfl, hb5⟩
                go_wp2_with fail
                go_ret
                exact ⟨rfl, onF HB3.out hb5⟩
              · have HFa : Hid (-1125899906842624 ≤ f.amt ∧ f.amt ≤ 1125899906842624) := Lib.hid ⟨by omega, by omega⟩
                generalize hfa : f.amt = am at *
                have HFe := Lib.hid hfa
                clear hfa
                go_wp2_with fail
                go_roundw
                case rel =>
                  refine ⟨i + 1, by omega, by go_num, by first | rfl | trivial, fun j hj => ?_⟩
                  by_cases e : j = i
                  · subst e; rw [← HF.out, HFe.out]; exact HFa.out
                  · exact HAm.out j (by omega)
                case measure => first | (simp [RowKit.intOf]; done) | (simp [RowKit.intOf]; omega)
        · obtain rfl : i = t.length := by omega
          have HAt : Hid (AmB t) := Lib.hid ham
          obtain ⟨am1, am2⟩ := HAmp.out ham
          have HAa := Lib.hid am1
          have HAb := Lib.hid am2
          have HBx := Lib.hid (fun c => smC_bd am1 c a.length (Nat.le_refl _))
          have HBy := Lib.hid (fun c => smC_bd am2 c b.length (Nat.le_refl _))
          have HEa0 := Lib.hid (fun h => tE_ten (t := a) h)
          have HEb0 := Lib.hid (fun h => tE_ten (t := b) h)
          have HEt0 := Lib.hid (fun h => tE_ten (t := t) h)
          have HTa := Lib.hid (fun w hs => totals_all a (by omega) am1 (.slice aa a.length ca) w hs)
          have HTb := Lib.hid (fun w hs => totals_all b (by omega) am2 (.slice ba b.length cb) w hs)
          have HTt := Lib.hid (fun w hs => totals_all t (by omega) HAt.out (.slice av t.length cv) w hs)
          clear ham am1 am2
          generalize tE a = eA at *
          generalize tE b = eB at *
          generalize tE t = eT at *
          go_wp2_with fail
          refine (HTa.out w3 (HSa.out.keep HB3.out)).mono ?_
          rintro e w4 ⟨⟨X, rfl, hX⟩, hb4⟩
          have HX := Lib.hid hX
          have HB4 := Lib.hid (onF HB3.out hb4)
          have HT4 := Lib.hid (HT3.out.grown hb4)
          clear hX hb4
          go_wp2_with fail
          have hnx := newF w4 (.cells #[.int .i64 (X 0), .int .i64 (X 1), .int .i64 (X 2), .int .i64 (X 3), .int .i64 (X 4), .int .i64 (X 5), .int .i64 (X 6), .int .i64 (X 7)] 26)
          have HCx := Lib.hid (arr8 w4 X 26)
          have HB5 := Lib.hid (onF HB4.out hnx)
          have HT5 := Lib.hid (HT4.out.grown hnx)
          generalize w4.alloc (.cells #[.int .i64 (X 0), .int .i64 (X 1), .int .i64 (X 2), .int .i64 (X 3), .int .i64 (X 4), .int .i64 (X 5), .int .i64 (X 6), .int .i64 (X 7)] 26) = w5 at *
          clear hnx
          refine (HTb.out w5 (HSb.out.keep HB5.out)).mono ?_
          rintro e w6 ⟨⟨Y, rfl, hY⟩, hb6⟩
          have HY := Lib.hid hY
          have HB6 := Lib.hid (onF HB5.out hb6)
          have HT6 := Lib.hid (HT5.out.grown hb6)
          have HCx6 := Lib.hid (fun c hc => keepF hb6 (HCx.out c hc))
          clear hY hb6
          go_wp2_with fail
          have hny := newF w6 (.cells #[.int .i64 (Y 0), .int .i64 (Y 1), .int .i64 (Y 2), .int .i64 (Y 3), .int .i64 (Y 4), .int .i64 (Y 5), .int .i64 (Y 6), .int .i64 (Y 7)] 26)
          have HCy := Lib.hid (arr8 w6 Y 26)
          have HB7 := Lib.hid (onF HB6.out hny)
          have HT7 := Lib.hid (HT6.out.grown hny)
          have HCx7 := Lib.hid (fun c hc => keepF hny (HCx6.out c hc))
          generalize w6.alloc (.cells #[.int .i64 (Y 0), .int .i64 (Y 1), .int .i64 (Y 2), .int .i64 (Y 3), .int .i64 (Y 4), .int .i64 (Y 5), .int .i64 (Y 6), .int .i64 (Y 7)] 26) = w7 at *
          clear hny
          refine (HTt.out w7 HT7.out.sl).mono ?_
          rintro e w8 ⟨⟨Z, rfl, hZ⟩, hb8⟩
          have HZ := Lib.hid hZ
          have HB8 := Lib.hid (onF HB7.out hb8)
          have HCx8 := Lib.hid (fun c hc => keepF hb8 (HCx7.out c hc))
          have HCy8 := Lib.hid (fun c hc => keepF hb8 (HCy.out c hc))
          clear hZ hb8
          have hnz := newF w8 (.cells #[.int .i64 (Z 0), .int .i64 (Z 1), .int .i64 (Z 2), .int .i64 (Z 3), .int .i64 (Z 4), .int .i64 (Z 5), .int .i64 (Z 6), .int .i64 (Z 7)] 26)
          have HCz := Lib.hid (arr8 w8 Z 26)
          have HB9 := Lib.hid (onF HB8.out hnz)
          have HCx9 := Lib.hid (fun c hc => keepF hnz (HCx8.out c hc))
          have HCy9 := Lib.hid (fun c hc => keepF hnz (HCy8.out c hc))
          clear hnz
          by_cases hA0 : eA = 0
          · by_cases hB0 : eB = 0
            · have hT0 := HEa.out.2 ⟨hA0, hB0⟩
              subst hA0 hB0 hT0
              go_wp2_with fail
              generalize w8.alloc (.cells #[.int .i64 (Z 0), .int .i64 (Z 1), .int .i64 (Z 2), .int .i64 (Z 3), .int .i64 (Z 4), .int .i64 (Z 5), .int .i64 (Z 6), .int .i64 (Z 7)] 26) = w9 at *
              go_loopw [14] (fun vi wx => ∃ (i q : Nat), i ≤ 8 ∧ vi = .int .i64 i ∧ wx = w9.drewN q) (fun vi _ => 8 - (RowKit.intOf vi).toNat)
              case atStart => exact ⟨0, 0, Nat.zero_le _, rfl, rfl⟩
              case round =>
                obtain ⟨i, q, hi, rfl, hw⟩ := hrel
                have HW := Lib.hid hw
                by_cases hlt8 : i < 8
                · have hz := HCz.out i hlt8
                  have hx := HCx9.out i hlt8
                  have hy := HCy9.out i hlt8
                  have hzx : Z i = X i + Y i := by rw [HZ.out (by first | rfl | trivial) i, HX.out (by first | rfl | trivial) i, HY.out (by first | rfl | trivial) i, HSma.out i, HSmr.out i]; omega
                  have bx := HBx.out i
                  have by_ := HBy.out i
                  rw [← HX.out (by first | rfl | trivial) i] at bx
                  rw [← HY.out (by first | rfl | trivial) i] at by_
                  rw [hzx] at hz
                  have z1 : wr.cell? ⟨w8.heap.size, i, none⟩ = some (.int .i64 (X i + Y i)) := by rw [hw]; exact hz
                  have z2 : wr.cell? ⟨w4.heap.size, i, none⟩ = some (.int .i64 (X i)) := by rw [hw]; exact hx
                  have z3 : wr.cell? ⟨w6.heap.size, i, none⟩ = some (.int .i64 (Y i)) := by rw [hw]; exact hy
                  have m1 : -9223372036854775808 ≤ X i + Y i := by omega
                  have m2 : X i + Y i ≤ 9223372036854775807 := by omega
                  have j0 : (0 : Int) ≤ (i : Int) := by omega
                  have j1 : (i : Int) < 8 := by omega
                  clear hw hz hx hy hzx bx by_
                  generalize X i = x at *
                  generalize Y i = y at *
                  go_wp2_with fail
                  go_quiet (fail)
                  go_wp2
                  go_roundw
                  case rel => exact ⟨i + 1, q + nq, by omega, by go_num, by rw [HW.out, World.drewN_drewN]⟩
                  case measure => first | (simp [RowKit.intOf]; done) | (simp [RowKit.intOf]; omega)
                · obtain rfl : i = 8 := by omega
                  have hb10 : Below w.heap.size w wr := by rw [hw]; exact HB9.out.trans ⟨rfl, rfl, rfl, Nat.le_refl _, fun _ _ => rfl⟩
                  have HB10 := Lib.hid hb10
                  clear hb10 hw
                  go_wp2_with fail
                  refine (HAw.out _ HB10.out).mono ?_
                  rintro e w10 ⟨rfl, hb11⟩
                  go_wp2_with fail
                  go_ret
                  exact ⟨rfl, onF HB10.out hb11⟩
            · have hT0 := HEt0.out (fun h => hB0 (HEa.out.1 h).2)
              have hB1 := HEb0.out hB0
              subst hA0 hT0 hB1
              clear hB0
              go_wp2_with fail
              refine (HAw.out _ HB9.out).mono ?_
              rintro e w10 ⟨rfl, hb11⟩
              go_wp2_with fail
              go_ret
              exact ⟨rfl, onF HB9.out hb11⟩
          · have hT0 := HEt0.out (fun h => hA0 (HEa.out.1 h).1)
            have hA1 := HEa0.out hA0
            subst hA1 hT0
            clear hA0
            go_wp2_with fail
            refine (HAw.out _ HB9.out).mono ?_
            rintro e w10 ⟨rfl, hb11⟩
            go_wp2_with fail
            go_ret
            exact ⟨rfl, onF HB9.out hb11⟩

theorem cjoins_walk (a b : List Fl) (hfa : ∀ x ∈ a, -9223372036854775808 ≤ x.amt ∧ x.amt ≤ 9223372036854775807) (hfb : ∀ x ∈ b, -9223372036854775808 ≤ x.amt ∧ x.amt ≤ 9223372036854775807) (ha : a.length ≤ 9223372036854775807) (hb : b.length ≤ 9223372036854775807) (aa ba : Option Addr) (ca cb : Nat) (w : World) (hsa : SlF w (.slice aa a.length ca) a) (hsb : SlF w (.slice ba b.length cb) b) (L : LibW w) (C : CurW w) :
    Calls Tryd.prog 3 #[.slice aa a.length ca, .slice ba b.length cb] w fun e w' => e = .returned (.bool true) ∧ Below w.heap.size w w' := by
  by_cases h : 40 < a.length ∨ 40 < b.length
  · exact cjoins_far aa ba _ ca _ cb h ha hb w L C
  · exact cjoins_main a b (by omega) (by omega) hfa hfb aa ba ca cb w hsa hsb L C

end Go.Proofs.YtadjhofomabbmaaDoor

/-
  chattelref01's trim and minus once more: where their answers lie.
-/
import Derived.Test.YtedjbmmegjgegaaRefH
namespace Go.Proofs.Ytedjbmmegjgegaa
open Go.RowKit
set_option linter.unusedVariables false

set_option maxHeartbeats 1000000 in
theorem trim_at (l : List Int) (a : Option Addr) (cap : Nat) (w : World) (h : SLF w a l) (hb : IsBits l) (hc : l.length ≤ cap) (hcap : cap ≤ 9223372036854775807) (hn : l.length ≤ 1152921504606846976) :
    Calls Try.prog 64 #[.slice a l.length cap] w fun e w' => (∃ k, e = .returned (.slice a k cap) ∧ SL w (.slice a k cap) (bitsN (val l))) ∧ w' = w := by
  have HSL : Hid _ := h
  have HB : Hid _ := hb
  clear h hb
  go_enter Try.func64, Try.ntmps64
  go_wp2
  go_loop [3] (fun vn => ∃ n : Nat, vn = .int .i64 n ∧ TrimK l n) (fun vn => (intOf vn).toNat)
  case atStart => exact ⟨l.length, rfl, Nat.le_refl _, fun t h1 h2 => by omega⟩
  case round =>
    obtain ⟨n, rfl, hk⟩ := hrel
    have hnl : n ≤ l.length := hk.1
    by_cases c : 0 < n
    · obtain ⟨b, o, ha, hbs, hr⟩ := SLF.cell HSL.out (show n - 1 < l.length by omega)
      obtain ⟨x, hx⟩ : ∃ x, x = l.getD (n - 1) 0 := ⟨_, rfl⟩
      have hcx : w.cell? ⟨b, o + (n - 1), none⟩ = some (.int .i64 x) := by rw [hx]; exact hr (n - 1) (by omega)
      have HX := Lib.hid hx
      have HA := Lib.hid ha
      subst ha
      clear hx hr
      by_cases hz : x = 0
      · have hzb : (x == 0) = true := by simpa using hz
        have HZ := Lib.hid hz
        clear hz
        go_wp2
        go_round
        case rel =>
          refine ⟨n - 1, by go_num, by omega, fun t h1 h2 => ?_⟩
          by_cases e : t = n - 1
          · rw [e, ← HX.out]; exact HZ.out
          · exact hk.2 t (by omega) h2
        case measure => simp [intOf]; omega
      · have hzb : (x == 0) = false := by simpa using hz
        have HZ := Lib.hid hz
        clear hz
        go_wp2
        go_ret
        have he := trim_eq HB.out hnl hk.2 (Or.inr (by rw [← HX.out]; exact HZ.out))
        exact ⟨⟨_, rfl, SL.of_take HSL.out hnl hc hcap he⟩, rfl⟩
    · obtain rfl : n = 0 := by omega
      have he := trim_eq HB.out hnl hk.2 (Or.inl rfl)
      have HE := Lib.hid he
      clear he
      go_wp2
      go_ret
      exact ⟨⟨_, rfl, SL.of_take HSL.out hnl hc hcap HE.out⟩, rfl⟩


/-- Where a slice of the call's own lies. -/
theorem own_loc {w : World} {base : Nat} {v : Value} {l : List Int} (h : Own w base v l) {a : Option Addr} {n c : Nat} (hv : v = .slice a n c) : ∀ ad, a = some ad → base ≤ ad.block := by
  intro ad had
  subst had
  rcases h.reads with ⟨e, _⟩ | ⟨g, cap, e, hb, _⟩
  · rw [hv] at e; cases e
  · rw [hv] at e; cases e; exact hb

/-- What minus leaves, and where. -/
def MinusAt (x : Nat) (w : World) (e : Ending) (w' : World) : Prop := ∃ a n c, e = .returned (.slice a n c) ∧ SL w' (.slice a n c) (bitsN x) ∧ Below w.heap.size w w' ∧ ∀ ad, a = some ad → w.heap.size ≤ ad.block

set_option maxHeartbeats 2000000 in
set_option maxRecDepth 100000 in
theorem minus_at (a b : List Int) (p p' : Option Addr) (c c' : Nat) (w : World) (h : SLF w p a) (h' : SLF w p' b) (ha : IsBits a) (hb : IsBits b) (hn : a.length ≤ 100000) (hn' : b.length ≤ 100000) (hab : val b ≤ val a) :
    Calls Try.prog 66 #[.slice p a.length c, .slice p' b.length c'] w (MinusAt (val a - val b) w) := by
  have H : Hid _ := h
  have H' : Hid _ := h'
  have HA : Hid _ := ha
  have HB : Hid _ := hb
  have HAB := Lib.hid hab
  obtain ⟨i0, hi0, hz0, hz1, hz2⟩ := info_parts Try.infoI
  clear h h' ha hb hab
  go_enter Try.func66, Try.ntmps66
  go_wp2
  go_loopw [5, 6, 7, 8] (fun v vc vi vn wx => ∃ (i : Nat) (k : Int) (out : List Int), vi = .int .i64 i ∧ vc = .int .i64 k ∧ MinInv a b i k out ∧ Own wx w.heap.size v out ∧ Below w.heap.size w wx) (fun _ _ vi _ _ => a.length - (intOf vi).toNat)
  case atStart => exact ⟨0, 0, [], rfl, rfl, MinInv.start a b, Own.nil _ _, Below.refl _ _⟩
  case round =>
    obtain ⟨i, k, out, rfl, rfl, hinv, hown, hbel⟩ := hrel
    have hk0 : 0 ≤ k := by rcases hinv.c01 with g | g <;> omega
    have hk1 : k ≤ 1 := by rcases hinv.c01 with g | g <;> omega
    have hsz : w.heap.size ≤ wr.heap.size := hbel.size
    have hil : i ≤ a.length := hinv.lim
    by_cases hc : i < a.length
    · obtain ⟨x, hx⟩ : ∃ x, x = a.getD i 0 := ⟨_, rfl⟩
      obtain ⟨y, hy⟩ : ∃ y, y = b.getD i 0 := ⟨_, rfl⟩
      obtain ⟨bb, oo, hpa, hpb, hpr⟩ := (SLF.keep H.out hbel).cell hc
      subst hpa
      have hcx : wr.cell? ⟨bb, oo + i, none⟩ = some (.int .i64 x) := by rw [hx]; exact hpr i hc
      have hbl : SLF wr p' b := SLF.keep H'.out hbel
      have c2 : ∀ nq, Calls Try.prog 73 #[.slice p' b.length c', .int .i64 i] (wr.drewN nq) fun e w' => e = .returned (.int .i64 y) ∧ w' = wr.drewN nq := fun nq => by
        rw [hy]; exact at_any b p' c' i (wr.drewN nq) (hbl.keep (drewN_below' wr nq)) (by omega) (by omega)
      have HC2 := Lib.hid c2
      have hx01 : x = 0 ∨ x = 1 := by rw [hx]; exact HA.out i
      have hy01 : y = 0 ∨ y = 1 := by rw [hy]; exact HB.out i
      have x0 : 0 ≤ x := by omega
      have x1 : x ≤ 1 := by omega
      have y0 : 0 ≤ y := by omega
      have y1 : y ≤ 1 := by omega
      have i1 : (i : Int) < (a.length : Int) := by omega
      have w1 : IntKind.i64.wrap (x - y) = x - y := IntWalk.i64_in _ (by omega)
      have w2 : IntKind.i64.wrap (x - y - k) = x - y - k := IntWalk.i64_in _ (by omega)
      have hlen : out.length = i := hinv.len
      have h63 : out.length + 1 ≤ maxLen := by unfold maxLen; omega
      have hby : (out.length + 1) * 8 ≤ 140737488355328 := by omega
      have HX := Lib.hid hx
      have HY := Lib.hid hy
      have HInv := Lib.hid hinv
      have HBel := Lib.hid hbel
      have HLen := Lib.hid hlen
      clear c2 hx hy hx01 hy01 hinv hbel hlen hpr hbl
      go_wp2_with fail
      go_quiet (first | (go_at_call 73; refine Calls.quiet_of_same (HC2.out _)))
      have HOd : Hid (Own (wr.drewN nq) w.heap.size u5 out) := Lib.hid (hown.grown (drewN_below' wr nq))
      have HBd : Hid (Below w.heap.size w (wr.drewN nq)) := Lib.hid (HBel.out.trans ((drewN_below' wr nq).mono hsz))
      have hsz5 : w.heap.size ≤ (wr.drewN nq).heap.size := hsz
      clear w1 w2 hcx HC2 hown HBel hsz
      generalize wr.drewN nq = w5 at *
      have hown5 := HOd.out
      clear HOd
      by_cases hneg : x - y - k < 0
      · go_wp2_with (at_builtin; refine wpList_append_own _ rfl _ _ 99 rfl w.heap.size 3 i0 (.int .i64 0) 1 8 Try.underlying99 hi0 hz0 hz1 hz2 rfl (by decide) _ _ _ rfl (hown5.alloc _) ⟨w5.heap.size, 0, none⟩ 1 1 [.int .i64 (x - y - k + 2)] rfl rfl (one_cell w5 _ _) (one_one _) h63 hby (by simp; omega) ?_; intro v' w1 hown' hgrow _)
        have HO := Lib.hid (own_snoc hown')
        have HB2 := Lib.hid (below_append HBd.out hown5 (Nat.le_refl _) hsz5 hgrow)
        clear hown' hgrow hown5
        go_wp2
        go_roundw
        case rel => exact ⟨i + 1, 1, out ++ [(x - y - k + 2)], by go_num, rfl, HInv.out.step HA.out HB.out hc _ _ (by rw [← HX.out, ← HY.out]; omega) (by omega) (by omega), HO.out, HB2.out⟩
        case measure => simp [intOf]; omega
      · go_wp2_with (at_builtin; refine wpList_append_own _ rfl _ _ 99 rfl w.heap.size 3 i0 (.int .i64 0) 1 8 Try.underlying99 hi0 hz0 hz1 hz2 rfl (by decide) _ _ _ rfl (hown5.alloc _) ⟨w5.heap.size, 0, none⟩ 1 1 [.int .i64 (x - y - k)] rfl rfl (one_cell w5 _ _) (one_one _) h63 hby (by simp; omega) ?_; intro v' w1 hown' hgrow _)
        have HO := Lib.hid (own_snoc hown')
        have HB2 := Lib.hid (below_append HBd.out hown5 (Nat.le_refl _) hsz5 hgrow)
        clear hown' hgrow hown5
        go_wp2
        go_roundw
        case rel => exact ⟨i + 1, 0, out ++ [(x - y - k)], by go_num, rfl, HInv.out.step HA.out HB.out hc _ _ (by rw [← HX.out, ← HY.out]; omega) (by omega) (by omega), HO.out, HB2.out⟩
        case measure => simp [intOf]; omega
    · obtain rfl : a.length = i := by omega
      have hd := hinv.done HAB.out
      have HD := Lib.hid hd
      have hsl := hown.sl
      have hlen := hinv.len
      obtain ⟨aa, cc, hv, l1, l2, l3⟩ := hsl
      have HLoc := Lib.hid (own_loc hown hv)
      have HT := Lib.hid (trim_at out aa cc wr l3 hd.2 l1 l2 (by omega))
      rw [hd.1] at HT
      have HBel := Lib.hid hbel
      have HV := Lib.hid hv
      subst hv
      clear hinv hown hd hlen hbel l3
      go_wp2_with (go_at_call 64; refine HT.out.mono ?_; rintro e w' ⟨⟨k, rfl, hs⟩, rfl⟩)
      go_ret
      exact ⟨_, _, _, rfl, ‹SL _ _ _›, HBel.out, HLoc.out⟩

end Go.Proofs.Ytedjbmmegjgegaa

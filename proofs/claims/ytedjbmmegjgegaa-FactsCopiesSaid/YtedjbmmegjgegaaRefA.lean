/-
  chattelref01's small functions on bits: at, trim, order.
-/
import Derived.Test.YtedjbmmegjgegaaBin
import Derived.Test.YtedjbmmegjgegaaOwn
import Derived.WalkSpells
namespace Go.Proofs.Ytedjbmmegjgegaa
open Go.RowKit
set_option linter.unusedVariables false

/-- A slice of numbers, wherever it lies; nil too. -/
def SLF (w : World) (a : Option Addr) (l : List Int) : Prop := l = [] ∨ ∃ b o, a = some ⟨b, o, none⟩ ∧ b < w.heap.size ∧ Row w b o l
def SL (w : World) (v : Value) (l : List Int) : Prop := ∃ a cap, v = .slice a l.length cap ∧ l.length ≤ cap ∧ cap ≤ 9223372036854775807 ∧ SLF w a l

theorem SLF.keep {w w' : World} {a : Option Addr} {l : List Int} (h : SLF w a l) (hb : Below w.heap.size w w') : SLF w' a l := by
  rcases h with h | ⟨b, o, rfl, h1, h2⟩
  · exact Or.inl h
  · exact Or.inr ⟨b, o, rfl, Nat.lt_of_lt_of_le h1 hb.size, fun t ht => by rw [hb.cell (p := ⟨b, o + t, none⟩) h1]; exact h2 t ht⟩
theorem SL.keep {w w' : World} {v : Value} {l : List Int} (h : SL w v l) (hb : Below w.heap.size w w') : SL w' v l := by
  obtain ⟨a, cap, rfl, h1, h2, h3⟩ := h
  exact ⟨a, cap, rfl, h1, h2, h3.keep hb⟩
theorem SLF.cell {w : World} {a : Option Addr} {l : List Int} (h : SLF w a l) {t : Nat} (ht : t < l.length) : ∃ b o, a = some ⟨b, o, none⟩ ∧ b < w.heap.size ∧ Row w b o l := by
  rcases h with h | h
  · rw [h] at ht; simp at ht
  · exact h
theorem Own.sl {w : World} {base : Nat} {v : Value} {l : List Int} (h : Own w base v l) : SL w v l := by
  obtain ⟨h1, h2⟩ := h
  have hr := Own.reads ⟨h1, h2⟩
  rcases h2 with ⟨rfl, hn⟩ | ⟨g, cap, cur, rfl, hb, hc, h3, h4, h5, h6⟩
  · have e : l = [] := List.length_eq_zero_iff.1 hn
    subst e
    exact ⟨none, 0, rfl, Nat.le_refl _, by omega, Or.inl rfl⟩
  · unfold maxLen at h4
    refine ⟨some ⟨g, 0, none⟩, cap, rfl, h3, h4, ?_⟩
    rcases hr with ⟨e, _⟩ | ⟨g', cap', e, _, h7, h8⟩
    · cases e
    · simp at e
      obtain ⟨rfl, _⟩ := e
      exact Or.inr ⟨g, 0, rfl, h7, h8⟩

theorem at_any (l : List Int) (a : Option Addr) (cap i : Nat) (w : World) (h : SLF w a l) (hn : l.length ≤ 1152921504606846976) (hi : i ≤ 1152921504606846976) :
    Calls Try.prog 73 #[.slice a l.length cap, .int .i64 i] w fun e w' => e = .returned (.int .i64 (l.getD i 0)) ∧ w' = w := by
  by_cases c : i < l.length
  · obtain ⟨b, o, rfl, _, hr⟩ := h.cell c
    obtain ⟨x, hx⟩ : ∃ x, x = l.getD i 0 := ⟨_, rfl⟩
    have hc : w.cell? ⟨b, o + i, none⟩ = some (.int .i64 x) := by rw [hx]; exact hr i c
    have HX := Lib.hid hx
    rw [← hx]
    clear hx hr h
    go_enter Try.func73, Try.ntmps73
    go_wp2
    go_ret
    exact ⟨rfl, rfl⟩
  · have e : l.getD i 0 = 0 := by rw [List.getD_eq_getElem?_getD, List.getElem?_eq_none (by omega)]; rfl
    rw [e]
    clear h e
    go_enter Try.func73, Try.ntmps73
    go_wp2
    go_ret
    exact ⟨rfl, rfl⟩

theorem SL.of_take {w : World} {a : Option Addr} {l L : List Int} {n cap : Nat} (h : SLF w a l) (hn : n ≤ l.length) (hc : l.length ≤ cap) (hcap : cap ≤ 9223372036854775807) (he : l.take n = L) : SL w (.slice a n cap) L := by
  subst he
  have hl : (l.take n).length = n := by rw [List.length_take]; omega
  refine ⟨a, cap, by rw [hl], by omega, hcap, ?_⟩
  rcases h with rfl | ⟨b, o, rfl, h1, h2⟩
  · exact Or.inl (by simp)
  · refine Or.inr ⟨b, o, rfl, h1, fun t ht => ?_⟩
    rw [hl] at ht
    rw [List.getD_eq_getElem?_getD, List.getElem?_take, if_pos ht, ← List.getD_eq_getElem?_getD]
    exact h2 t (by omega)

/-- Where the cutting off of noughts stands. -/
def TrimK (l : List Int) (n : Nat) : Prop := n ≤ l.length ∧ ∀ t, n ≤ t → t < l.length → l.getD t 0 = 0

set_option maxHeartbeats 1000000 in
theorem trim_any (l : List Int) (a : Option Addr) (cap : Nat) (w : World) (h : SLF w a l) (hb : IsBits l) (hc : l.length ≤ cap) (hcap : cap ≤ 9223372036854775807) (hn : l.length ≤ 1152921504606846976) :
    Calls Try.prog 64 #[.slice a l.length cap] w fun e w' => (∃ v, e = .returned v ∧ SL w v (bitsN (val l))) ∧ w' = w := by
  have HSL : Hid _ := h
  have HB : Hid _ := hb
  clear h hb
  go_enter Try.func64, Try.ntmps64
  go_wp2
  go_loop [3] (fun vn => ∃ n : Nat, vn = .int .i64 n ∧ TrimK l n) (fun vn => (intOf vn).toNat)
  case atStart => exact ⟨l.length, rfl, Nat.le_refl _, fun t h1 h2 => by omega⟩
  case round =>
    obtain ⟨n, rfl, hk⟩ := hrel
    have hnl : n ≤ l.length := hk.1
    by_cases c : 0 < n
    · obtain ⟨b, o, ha, hbs, hr⟩ := SLF.cell HSL.out (show n - 1 < l.length by omega)
      obtain ⟨x, hx⟩ : ∃ x, x = l.getD (n - 1) 0 := ⟨_, rfl⟩
      have hcx : w.cell? ⟨b, o + (n - 1), none⟩ = some (.int .i64 x) := by rw [hx]; exact hr (n - 1) (by omega)
      have HX := Lib.hid hx
      have HA := Lib.hid ha
      subst ha
      clear hx hr
      by_cases hz : x = 0
      · have hzb : (x == 0) = true := by simpa using hz
        have HZ := Lib.hid hz
        clear hz
        go_wp2
        go_round
        case rel =>
          refine ⟨n - 1, by go_num, by omega, fun t h1 h2 => ?_⟩
          by_cases e : t = n - 1
          · rw [e, ← HX.out]; exact HZ.out
          · exact hk.2 t (by omega) h2
        case measure => simp [intOf]; omega
      · have hzb : (x == 0) = false := by simpa using hz
        have HZ := Lib.hid hz
        clear hz
        go_wp2
        go_ret
        have he := trim_eq HB.out hnl hk.2 (Or.inr (by rw [← HX.out]; exact HZ.out))
        exact ⟨⟨_, rfl, SL.of_take HSL.out hnl hc hcap he⟩, rfl⟩
    · obtain rfl : n = 0 := by omega
      have he := trim_eq HB.out hnl hk.2 (Or.inl rfl)
      have HE := Lib.hid he
      clear he
      go_wp2
      go_ret
      exact ⟨⟨_, rfl, SL.of_take HSL.out hnl hc hcap HE.out⟩, rfl⟩

/-- Where the comparing from the top stands. -/
def SameFrom (x y : Nat) (i : Int) : Prop := ∀ t : Nat, i < (t : Int) → (bitsN x).getD t 0 = (bitsN y).getD t 0

theorem bits_eq {x y : Nat} (hl : (bitsN x).length = (bitsN y).length) (h : SameFrom x y (-1)) : x = y := by
  have e : bitsN x = bitsN y := by
    apply List.ext_getElem hl
    intro t h1 h2
    have := h t (by omega)
    rw [List.getD_eq_getElem?_getD, List.getD_eq_getElem?_getD, List.getElem?_eq_getElem h1, List.getElem?_eq_getElem h2] at this
    exact this
  have h1 := val_bitsN x
  rw [e, val_bitsN] at h1
  exact h1.symm

set_option maxHeartbeats 1000000 in
theorem ord_any (x y : Nat) (a a' : Option Addr) (c c' : Nat) (w : World) (h : SLF w a (bitsN x)) (h' : SLF w a' (bitsN y)) (hn : (bitsN x).length ≤ 1152921504606846976) (hn' : (bitsN y).length ≤ 1152921504606846976) :
    Calls Try.prog 65 #[.slice a (bitsN x).length c, .slice a' (bitsN y).length c'] w fun e w' => e = .returned (.int .i64 (ordZ x y)) ∧ ∃ q, w' = w.drewN q := by
  have H : Hid _ := h
  have H' : Hid _ := h'
  clear h h'
  obtain ⟨p, hp⟩ : ∃ p, p = (bitsN x).length := ⟨_, rfl⟩
  obtain ⟨p', hp'⟩ : ∃ p', p' = (bitsN y).length := ⟨_, rfl⟩
  have HPl := Lib.hid hp
  have HPr := Lib.hid hp'
  rw [← hp] at hn ⊢
  rw [← hp'] at hn' ⊢
  clear hp hp'
  rcases Nat.lt_trichotomy p p' with g | g | g
  · have HO : Hid (ordZ x y = -1) := Lib.hid (by unfold ordZ; rw [if_pos (len_lt (by rw [← HPl.out, ← HPr.out]; exact g))])
    have hb : ((p : Int) != (p' : Int)) = true := by simp; omega
    go_enter Try.func65, Try.ntmps65
    go_wp2
    go_ret
    exact ⟨ret_int HO.out.symm, 0, rfl⟩
  · subst g
    have hb : ((p : Int) != (p : Int)) = false := by simp
    have HLen : Hid ((bitsN x).length = (bitsN y).length) := Lib.hid (by rw [← HPl.out, HPr.out])
    go_enter Try.func65, Try.ntmps65
    go_wp2
    go_loopw [5] (fun vi wx => ∃ (i : Int) (q : Nat), -1 ≤ i ∧ i < p ∧ vi = .int .i64 i ∧ wx = w.drewN q ∧ SameFrom x y i) (fun vi _ => (intOf vi + 1).toNat)
    case atStart => exact ⟨(p : Int) - 1, 0, by omega, by omega, rfl, rfl, fun t ht => by
      rw [List.getD_eq_getElem?_getD, List.getD_eq_getElem?_getD, List.getElem?_eq_none (by have := HPl.out; omega), List.getElem?_eq_none (by have := HPr.out; omega)]⟩
    case round =>
      obtain ⟨i, q, hi0, hi1, rfl, hwr, hsm⟩ := hrel
      have HSm := Lib.hid hsm
      clear hsm
      by_cases c : 0 ≤ i
      · obtain ⟨k, rfl⟩ := Int.eq_ofNat_of_zero_le c
        obtain ⟨b, o, ha, _, hr⟩ := SLF.cell H.out (show k < (bitsN x).length by have := HPl.out; omega)
        obtain ⟨b', o', ha', _, hr'⟩ := SLF.cell H'.out (show k < (bitsN y).length by have := HPr.out; omega)
        subst ha
        subst ha'
        obtain ⟨u, hu⟩ : ∃ u, u = (bitsN x).getD k 0 := ⟨_, rfl⟩
        obtain ⟨v, hv⟩ : ∃ v, v = (bitsN y).getD k 0 := ⟨_, rfl⟩
        have hc1 : wr.cell? ⟨b, o + k, none⟩ = some (.int .i64 u) := by rw [hwr, hu]; exact hr k (by have := HPl.out; omega)
        have hc2 : wr.cell? ⟨b', o' + k, none⟩ = some (.int .i64 v) := by rw [hwr, hv]; exact hr' k (by have := HPr.out; omega)
        have hu01 : u = 0 ∨ u = 1 := by rw [hu]; exact bits_of_bitsN x k
        have hv01 : v = 0 ∨ v = 1 := by rw [hv]; exact bits_of_bitsN y k
        have u0 : 0 ≤ u := by omega
        have u1 : u ≤ 1 := by omega
        have v0 : 0 ≤ v := by omega
        have v1 : v ≤ 1 := by omega
        have HU := Lib.hid hu
        have HV := Lib.hid hv
        have HW := Lib.hid hwr
        have i1 : (k : Int) < (p : Int) := by omega
        clear hr hr' hu hv hwr hu01 hv01
        by_cases huv : u = v
        · have hb2 : (u != v) = false := by rw [huv]; simp
          have HUV := Lib.hid huv
          clear huv
          go_wp2
          go_quiet (fail)
          go_wp2
          go_roundw
          case rel =>
            refine ⟨(k : Int) - 1, q + nq, by omega, by omega, rfl, by rw [HW.out, World.drewN_drewN], fun t ht => ?_⟩
            by_cases e : t = k
            · subst e; rw [← HU.out, ← HV.out]; exact HUV.out
            · exact HSm.out t (by omega)
          case measure => simp [intOf]
        · have hb2 : (u != v) = true := by simpa using huv
          have HO : Hid (u - v = ordZ x y) := by
            apply Lib.hid
            unfold ordZ
            have hL := HLen.out
            rcases Int.lt_trichotomy u v with g | g | g
            · have := top_lt (bits_of_bitsN x) (bits_of_bitsN y) hL (i := k) (by have := HPl.out; omega) (fun t ht => HSm.out t (by omega)) (by rw [← HU.out, ← HV.out]; exact g)
              rw [val_bitsN, val_bitsN] at this
              rw [if_pos this]; omega
            · exact absurd g huv
            · have := top_lt (bits_of_bitsN y) (bits_of_bitsN x) hL.symm (i := k) (by have := HPr.out; omega) (fun t ht => (HSm.out t (by omega)).symm) (by rw [← HU.out, ← HV.out]; exact g)
              rw [val_bitsN, val_bitsN] at this
              rw [if_neg (by omega), if_pos this]; omega
          have hws : IntKind.i64.wrap (u - v) = u - v := IntWalk.i64_in _ (by omega)
          clear huv
          go_wp2
          go_quiet (fail)
          go_wp2
          go_quiet (fail)
          go_wp2
          go_ret
          exact ⟨ret_int HO.out, _, by rw [HW.out, World.drewN_drewN, World.drewN_drewN]⟩
      · have e : i = -1 := by omega
        have HO : Hid (ordZ x y = 0) := by
          apply Lib.hid
          have := bits_eq HLen.out (by have := HSm.out; rw [e] at this; exact this)
          subst this
          unfold ordZ; rw [if_neg (by omega), if_neg (by omega)]
        have HW := Lib.hid hwr
        clear hwr e
        go_wp2
        go_ret
        exact ⟨ret_int HO.out.symm, q, HW.out⟩
  · have HO : Hid (ordZ x y = 1) := Lib.hid (by
      have := len_lt (x := y) (y := x) (by rw [← HPl.out, ← HPr.out]; exact g)
      unfold ordZ; rw [if_neg (by omega), if_pos this])
    have hb : ((p : Int) != (p' : Int)) = true := by simp; omega
    go_enter Try.func65, Try.ntmps65
    go_wp2
    go_ret
    exact ⟨ret_int HO.out.symm, 0, rfl⟩

end Go.Proofs.Ytedjbmmegjgegaa

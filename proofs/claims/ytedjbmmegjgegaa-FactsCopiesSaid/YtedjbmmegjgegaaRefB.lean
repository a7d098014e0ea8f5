/-
  chattelref01's plus and minus on bits.
-/
import Derived.Test.YtedjbmmegjgegaaRefA
import Derived.Deep.DeepCutAuto
import Derived.Deep.LoopGhost
namespace Go.Proofs.Ytedjbmmegjgegaa
open Go.RowKit
set_option linter.unusedVariables false

structure PlusInv (a b : List Int) (i : Nat) (c : Int) (out : List Int) : Prop where
  len : out.length = i
  bits : IsBits out
  c01 : c = 0 ∨ c = 1
  sum : val out + 2 ^ i * (c.toNat + val (a.drop i) + val (b.drop i)) = val a + val b
  lim : (i ≤ a.length ∨ i ≤ b.length) ∨ (c = 0 ∧ (i ≤ a.length + 1 ∧ i ≤ b.length + 1 ∨ i ≤ a.length + 1 ∨ i ≤ b.length + 1))
  top : Canon a → Canon b → i = 0 ∨ out.getD (i - 1) 0 ≠ 0 ∨ c = 1 ∨ i < a.length ∨ i < b.length

theorem getD_snoc (l : List Int) (x : Int) : (l ++ [x]).getD l.length 0 = x := by
  rw [List.getD_eq_getElem?_getD, List.getElem?_append_right (Nat.le_refl _)]; simp

theorem PlusInv.step {a b : List Int} (ha : IsBits a) (hb : IsBits b) {i : Nat} {c : Int} {out : List Int} (h : PlusInv a b i c out) (hc : i < a.length ∨ i < b.length ∨ c = 1) :
    PlusInv a b (i + 1) ((a.getD i 0 + b.getD i 0 + c) / 2) (out ++ [(a.getD i 0 + b.getD i 0 + c) % 2]) := by
  have xa := ha i
  have xb := hb i
  have xc := h.c01
  have da := val_drop a i
  have db := val_drop b i
  have hl := h.len
  refine ⟨by rw [List.length_append, hl]; rfl, h.bits.snoc (by omega), by omega, ?_, ?_, ?_⟩
  · have hs := h.sum
    rw [val_snoc, hl, Nat.pow_succ, Nat.mul_assoc, Nat.add_assoc, ← Nat.mul_add]
    rw [da, db] at hs
    rw [← hs]
    congr 2
    generalize val (a.drop (i + 1)) = A
    generalize val (b.drop (i + 1)) = B
    omega
  · rcases h.lim with g | ⟨g0, g⟩
    · by_cases c1 : i + 1 ≤ a.length ∨ i + 1 ≤ b.length
      · exact Or.inl c1
      · right
        have za : ¬ i < a.length := by omega
        have zb : ¬ i < b.length := by omega
        have ea : a.getD i 0 = 0 := by rw [List.getD_eq_getElem?_getD, List.getElem?_eq_none (by omega)]; rfl
        have eb : b.getD i 0 = 0 := by rw [List.getD_eq_getElem?_getD, List.getElem?_eq_none (by omega)]; rfl
        rw [ea, eb]
        refine ⟨by omega, ?_⟩
        omega
    · omega
  · intro ca cb
    right
    by_cases e : (a.getD i 0 + b.getD i 0 + c) % 2 = 0
    · by_cases e2 : (a.getD i 0 + b.getD i 0 + c) / 2 = 1
      · exact Or.inr (Or.inl e2)
      · right; right
        have z1 : a.getD i 0 = 0 := by omega
        have z2 : b.getD i 0 = 0 := by omega
        rcases hc with g | g | g
        · left
          rcases Nat.lt_or_ge (i + 1) a.length with k | k
          · exact k
          · rcases ca with k2 | k2
            · rw [k2] at g; simp at g
            · rw [show a.length - 1 = i from by omega] at k2; exact absurd z1 k2
        · right
          rcases Nat.lt_or_ge (i + 1) b.length with k | k
          · exact k
          · rcases cb with k2 | k2
            · rw [k2] at g; simp at g
            · rw [show b.length - 1 = i from by omega] at k2; exact absurd z2 k2
        · omega
    · left
      have hg := getD_snoc out ((a.getD i 0 + b.getD i 0 + c) % 2)
      rw [hl] at hg
      rw [Nat.add_sub_cancel, hg]; exact e

theorem PlusInv.start (a b : List Int) : PlusInv a b 0 0 [] := ⟨rfl, IsBits.nil, Or.inl rfl, by simp [val], Or.inl (Or.inl (Nat.zero_le _)), fun _ _ => Or.inl rfl⟩
theorem PlusInv.done {a b : List Int} {i : Nat} {c : Int} {out : List Int} (h : PlusInv a b i c out) (h1 : ¬ i < a.length) (h2 : ¬ i < b.length) (h3 : c = 0) :
    val out = val a + val b ∧ IsBits out ∧ (Canon a → Canon b → Canon out) := by
  have hs := h.sum
  rw [List.drop_eq_nil_of_le (by omega), List.drop_eq_nil_of_le (by omega), h3] at hs
  refine ⟨by simpa [val] using hs, h.bits, fun ca cb => ?_⟩
  have hl := h.len
  rcases h.top ca cb with g | g | g | g | g
  · left; exact List.length_eq_zero_iff.1 (by omega)
  · right; rw [hl]; exact g
  · omega
  · omega
  · omega

/-- What plus leaves. -/
def PlusPost (a b : List Int) (w : World) (e : Ending) (w' : World) : Prop :=
  ∃ v out, e = .returned v ∧ Own w' w.heap.size v out ∧ Below w.heap.size w w' ∧ val out = val a + val b ∧ IsBits out ∧ (Canon a → Canon b → Canon out) ∧ (out.length ≤ a.length + 1 ∨ out.length ≤ b.length + 1)

theorem drewN_below' (w : World) (n : Nat) : Below w.heap.size w (w.drewN n) := ⟨rfl, rfl, rfl, Nat.le_refl _, fun _ _ => rfl⟩

structure MinInv (a b : List Int) (i : Nat) (c : Int) (out : List Int) : Prop where
  len : out.length = i
  bits : IsBits out
  c01 : c = 0 ∨ c = 1
  lim : i ≤ a.length
  sum : (val out : Int) + 2 ^ i * ((val (a.drop i) : Int) - (val (b.drop i) : Int) - c) = (val a : Int) - (val b : Int)

theorem MinInv.start (a b : List Int) : MinInv a b 0 0 [] := ⟨rfl, IsBits.nil, Or.inl rfl, Nat.zero_le _, by simp [val]⟩
theorem MinInv.step {a b : List Int} (ha : IsBits a) (hb : IsBits b) {i : Nat} {c : Int} {out : List Int} (h : MinInv a b i c out) (hi : i < a.length) (n c' : Int)
    (hn : n = a.getD i 0 - b.getD i 0 - c + 2 * c') (h01 : n = 0 ∨ n = 1) (hc' : c' = 0 ∨ c' = 1) : MinInv a b (i + 1) c' (out ++ [n]) := by
  have da := val_drop a i
  have db := val_drop b i
  have xa := ha i
  have xb := hb i
  have hl := h.len
  refine ⟨by rw [List.length_append, hl]; rfl, h.bits.snoc h01, hc', hi, ?_⟩
  have hs := h.sum
  rw [val_snoc, hl]
  rw [da, db] at hs
  rw [← hs]
  have e : ((val out + 2 ^ i * n.toNat : Nat) : Int) = (val out : Int) + 2 ^ i * n := by
    rw [Int.natCast_add, Int.natCast_mul, Int.natCast_pow, Int.toNat_of_nonneg (by omega)]; rfl
  rw [e, Int.pow_succ, Int.mul_assoc, Int.add_assoc, ← Int.mul_add]
  congr 2
  generalize val (a.drop (i + 1)) = A
  generalize val (b.drop (i + 1)) = B
  omega
theorem MinInv.done {a b : List Int} {c : Int} {out : List Int} (h : MinInv a b a.length c out) (hab : val b ≤ val a) : val out = val a - val b ∧ IsBits out := by
  have hs := h.sum
  rw [List.drop_eq_nil_of_le (Nat.le_refl _)] at hs
  have hlt := val_lt h.bits
  rw [h.len] at hlt
  have hlt' : (val out : Int) < 2 ^ a.length := by
    have : ((2 ^ a.length : Nat) : Int) = 2 ^ a.length := by rw [Int.natCast_pow]; rfl
    omega
  have hpos : (0 : Int) < 2 ^ a.length := by
    have : ((2 ^ a.length : Nat) : Int) = 2 ^ a.length := by rw [Int.natCast_pow]; rfl
    have := Nat.two_pow_pos a.length
    omega
  have hc := h.c01
  have hz : (val (b.drop a.length) : Int) + c = 0 := by
    rcases Int.lt_or_le ((val (b.drop a.length) : Int) + c) 1 with g | g
    · omega
    · exfalso
      have h2 : (2 : Int) ^ a.length * 1 ≤ 2 ^ a.length * ((val (b.drop a.length) : Int) + c) := Int.mul_le_mul_of_nonneg_left g (by omega)
      have e : (2 : Int) ^ a.length * (((val ([] : List Int) : Nat) : Int) - (val (b.drop a.length) : Int) - c) = -(2 ^ a.length * ((val (b.drop a.length) : Int) + c)) := by
        rw [← Int.mul_neg]; congr 1; simp [val]; omega
      rw [e] at hs
      omega
  have e : (((val ([] : List Int) : Nat) : Int) - (val (b.drop a.length) : Int) - c) = 0 := by simp [val]; omega
  rw [e, Int.mul_zero] at hs
  exact ⟨by omega, h.bits⟩

/-- What minus leaves. -/
def MinusPost (x : Nat) (w : World) (e : Ending) (w' : World) : Prop := ∃ v, e = .returned v ∧ SL w' v (bitsN x) ∧ Below w.heap.size w w'

set_option maxHeartbeats 2000000 in
set_option maxRecDepth 100000 in
theorem minus_any (a b : List Int) (p p' : Option Addr) (c c' : Nat) (w : World) (h : SLF w p a) (h' : SLF w p' b) (ha : IsBits a) (hb : IsBits b) (hn : a.length ≤ 100000) (hn' : b.length ≤ 100000) (hab : val b ≤ val a) :
    Calls Try.prog 66 #[.slice p a.length c, .slice p' b.length c'] w (MinusPost (val a - val b) w) := by
  have H : Hid _ := h
  have H' : Hid _ := h'
  have HA : Hid _ := ha
  have HB : Hid _ := hb
  have HAB := Lib.hid hab
  obtain ⟨i0, hi0, hz0, hz1, hz2⟩ := info_parts Try.infoI
  clear h h' ha hb hab
  go_enter Try.func66, Try.ntmps66
  go_wp2
  go_loopw [5, 6, 7, 8] (fun v vc vi vn wx => ∃ (i : Nat) (k : Int) (out : List Int), vi = .int .i64 i ∧ vc = .int .i64 k ∧ MinInv a b i k out ∧ Own wx w.heap.size v out ∧ Below w.heap.size w wx) (fun _ _ vi _ _ => a.length - (intOf vi).toNat)
  case atStart => exact ⟨0, 0, [], rfl, rfl, MinInv.start a b, Own.nil _ _, Below.refl _ _⟩
  case round =>
    obtain ⟨i, k, out, rfl, rfl, hinv, hown, hbel⟩ := hrel
    have hk0 : 0 ≤ k := by rcases hinv.c01 with g | g <;> omega
    have hk1 : k ≤ 1 := by rcases hinv.c01 with g | g <;> omega
    have hsz : w.heap.size ≤ wr.heap.size := hbel.size
    have hil : i ≤ a.length := hinv.lim
    by_cases hc : i < a.length
    · obtain ⟨x, hx⟩ : ∃ x, x = a.getD i 0 := ⟨_, rfl⟩
      obtain ⟨y, hy⟩ : ∃ y, y = b.getD i 0 := ⟨_, rfl⟩
      obtain ⟨bb, oo, hpa, hpb, hpr⟩ := (SLF.keep H.out hbel).cell hc
      subst hpa
      have hcx : wr.cell? ⟨bb, oo + i, none⟩ = some (.int .i64 x) := by rw [hx]; exact hpr i hc
      have hbl : SLF wr p' b := SLF.keep H'.out hbel
      have c2 : ∀ nq, Calls Try.prog 73 #[.slice p' b.length c', .int .i64 i] (wr.drewN nq) fun e w' => e = .returned (.int .i64 y) ∧ w' = wr.drewN nq := fun nq => by
        rw [hy]; exact at_any b p' c' i (wr.drewN nq) (hbl.keep (drewN_below' wr nq)) (by omega) (by omega)
      have HC2 := Lib.hid c2
      have hx01 : x = 0 ∨ x = 1 := by rw [hx]; exact HA.out i
      have hy01 : y = 0 ∨ y = 1 := by rw [hy]; exact HB.out i
      have x0 : 0 ≤ x := by omega
      have x1 : x ≤ 1 := by omega
      have y0 : 0 ≤ y := by omega
      have y1 : y ≤ 1 := by omega
      have i1 : (i : Int) < (a.length : Int) := by omega
      have w1 : IntKind.i64.wrap (x - y) = x - y := IntWalk.i64_in _ (by omega)
      have w2 : IntKind.i64.wrap (x - y - k) = x - y - k := IntWalk.i64_in _ (by omega)
      have hlen : out.length = i := hinv.len
      have h63 : out.length + 1 ≤ maxLen := by unfold maxLen; omega
      have hby : (out.length + 1) * 8 ≤ 140737488355328 := by omega
      have HX := Lib.hid hx
      have HY := Lib.hid hy
      have HInv := Lib.hid hinv
      have HBel := Lib.hid hbel
      have HLen := Lib.hid hlen
      clear c2 hx hy hx01 hy01 hinv hbel hlen hpr hbl
      go_wp2_with fail
      go_quiet (first | (go_at_call 73; refine Calls.quiet_of_same (HC2.out _)))
      have HOd : Hid (Own (wr.drewN nq) w.heap.size u5 out) := Lib.hid (hown.grown (drewN_below' wr nq))
      have HBd : Hid (Below w.heap.size w (wr.drewN nq)) := Lib.hid (HBel.out.trans ((drewN_below' wr nq).mono hsz))
      have hsz5 : w.heap.size ≤ (wr.drewN nq).heap.size := hsz
      clear w1 w2 hcx HC2 hown HBel hsz
      generalize wr.drewN nq = w5 at *
      have hown5 := HOd.out
      clear HOd
      by_cases hneg : x - y - k < 0
      · go_wp2_with (at_builtin; refine wpList_append_own _ rfl _ _ 99 rfl w.heap.size 3 i0 (.int .i64 0) 1 8 Try.underlying99 hi0 hz0 hz1 hz2 rfl (by decide) _ _ _ rfl (hown5.alloc _) ⟨w5.heap.size, 0, none⟩ 1 1 [.int .i64 (x - y - k + 2)] rfl rfl (one_cell w5 _ _) (one_one _) h63 hby (by simp; omega) ?_; intro v' w1 hown' hgrow _)
        have HO := Lib.hid (own_snoc hown')
        have HB2 := Lib.hid (below_append HBd.out hown5 (Nat.le_refl _) hsz5 hgrow)
        clear hown' hgrow hown5
        go_wp2
        go_roundw
        case rel => exact ⟨i + 1, 1, out ++ [(x - y - k + 2)], by go_num, rfl, HInv.out.step HA.out HB.out hc _ _ (by rw [← HX.out, ← HY.out]; omega) (by omega) (by omega), HO.out, HB2.out⟩
        case measure => simp [intOf]; omega
      · go_wp2_with (at_builtin; refine wpList_append_own _ rfl _ _ 99 rfl w.heap.size 3 i0 (.int .i64 0) 1 8 Try.underlying99 hi0 hz0 hz1 hz2 rfl (by decide) _ _ _ rfl (hown5.alloc _) ⟨w5.heap.size, 0, none⟩ 1 1 [.int .i64 (x - y - k)] rfl rfl (one_cell w5 _ _) (one_one _) h63 hby (by simp; omega) ?_; intro v' w1 hown' hgrow _)
        have HO := Lib.hid (own_snoc hown')
        have HB2 := Lib.hid (below_append HBd.out hown5 (Nat.le_refl _) hsz5 hgrow)
        clear hown' hgrow hown5
        go_wp2
        go_roundw
        case rel => exact ⟨i + 1, 0, out ++ [(x - y - k)], by go_num, rfl, HInv.out.step HA.out HB.out hc _ _ (by rw [← HX.out, ← HY.out]; omega) (by omega) (by omega), HO.out, HB2.out⟩
        case measure => simp [intOf]; omega
    · obtain rfl : a.length = i := by omega
      have hd := hinv.done HAB.out
      have HD := Lib.hid hd
      have hsl := hown.sl
      have hlen := hinv.len
      obtain ⟨aa, cc, hv, l1, l2, l3⟩ := hsl
      have HT := Lib.hid (trim_any out aa cc wr l3 hd.2 l1 l2 (by omega))
      rw [hd.1] at HT
      have HBel := Lib.hid hbel
      have HV := Lib.hid hv
      subst hv
      clear hinv hown hd hlen hbel l3
      go_wp2_with (go_at_call 64; refine HT.out.mono ?_; rintro e w' ⟨⟨v, rfl, hs⟩, rfl⟩)
      go_ret
      exact ⟨_, rfl, ‹SL _ _ _›, HBel.out⟩

end Go.Proofs.Ytedjbmmegjgegaa

/-
  chattellaw09.DenoteNets: the sums of flows of each day and currency (no program).
-/
import Derived.Test.YtgeneoamngfomaaGreatDoorLo
import Derived.WalkKit
import Derived.PlainAid
import Derived.Lib.Hide
import Derived.Sort.Row
import Derived.Sort.LotA
import Derived.CellFam
import Derived.BigGuard
import Derived.BigCall
import Derived.RegionTactic
import Derived.BigRegion
import Derived.Deep.Draws
import Derived.Deep.QuietTactic
import Derived.BigQuiet
import Derived.Deep.OwnRows
import Derived.Below
import Derived.WalkMore
import Derived.Deep.LoopGhost
import Derived.Lib.Mul64
import Derived.Lib.BitFns
import Derived.Lib.Strings
import Derived.Lib.Slices
import Derived.Lib.Small
import Derived.Lib.Walk
import Derived.Laws.Bits64b
import Derived.Laws.Externs
import Derived.OwnWalk
import Derived.Laws.AppendOwn
import Derived.Test.YtgeneoamngfomaaGreatDoorRf
import Derived.WalkSpells
import Derived.Deep.DeepCutAuto
import Derived.StillTailTactics
import Derived.Deep.RegionWith
import Derived.Deep.RegionHeld3
import Derived.Laws.OwnMore
import Derived.Test.YtgeneoamngfomaaGreatDoorEA
import Derived.Test.YtgeneoamngfomaaGreatDoorEG
import Derived.Maps.OwnRows
import Derived.WideKeyEntry
import Derived.Maps.Views
import Derived.Test.YtgeneoamngfomaaGreatDoorFa
import Derived.Test.YtgeneoamngfomaaGreatDoorEM
import Derived.Test.YtgeneoamngfomaaGreatDoorEK
import Derived.Test.YtgeneoamngfomaaGreatDoorEW
namespace Go.Proofs.YtgeneoamngfomaaGreatDoor
open Go.RowKit

theorem signBits_any (a : Int) (w : World) :
    Calls Tryz.prog 73 #[.int .i64 a] w fun e w' => e = .returned (.int .u64 (if a < 0 then 18446744073709551615 else 0)) ∧ w = w' := by
  by_cases h : a < 0
  · rw [if_pos h]
    go_enter Tryz.func73, Tryz.ntmps73
    go_wp2
    go_ret
    exact ⟨rfl, rfl⟩
  · rw [if_neg h]
    go_enter Tryz.func73, Tryz.ntmps73
    go_wp2
    go_ret
    exact ⟨rfl, rfl⟩

end Go.Proofs.YtgeneoamngfomaaGreatDoor

namespace Go.Proofs.YtgeneoamngfomaaGreatDoor
open Go.RowKit Go.Sort
set_option linter.unusedVariables false

end Go.Proofs.YtgeneoamngfomaaGreatDoor

namespace Go.Proofs.YtgeneoamngfomaaGreatDoor
open Go.RowKit

namespace BitsA
end BitsA

namespace BitsA
end BitsA

end Go.Proofs.YtgeneoamngfomaaGreatDoor

namespace Go.Proofs.YtgeneoamngfomaaGreatDoor
open Go.RowKit
set_option linter.unusedVariables false

def InI (l : List Int) : Prop := ∀ t, -9223372036854775808 ≤ l.getD t 0 ∧ l.getD t 0 ≤ 9223372036854775807
/-- The sum of the first numbers. -/
def sumK (l : List Int) : Nat → Int
  | 0 => 0
  | k + 1 => sumK l k + l.getD k 0
def sumL (l : List Int) : Int := sumK l l.length

theorem sumK_bd {l : List Int} (h : InI l) : ∀ k : Nat, -9223372036854775808 * (k : Int) ≤ sumK l k ∧ sumK l k ≤ 9223372036854775807 * (k : Int)
  | 0 => by simp [sumK]
  | k + 1 => by have := sumK_bd h k; have := h k; simp only [sumK]; omega

def loW (s : Int) : Int := s % 18446744073709551616
def hiW (s : Int) : Int := s / 18446744073709551616 % 18446744073709551616
theorem loW_bd (s : Int) : 0 ≤ loW s ∧ loW s ≤ 18446744073709551615 := by unfold loW; omega
theorem hiW_bd (s : Int) : 0 ≤ hiW s ∧ hiW s ≤ 18446744073709551615 := by unfold hiW; omega

theorem num_eqS {k : IntKind} {a b : Int} (h : a = b) : Value.int k a = Value.int k b := by rw [h]
theorem hi_neg (S x c : Int) (hx : x < 0) (hx0 : -9223372036854775808 ≤ x) (hc : c = (loW S + (x + 18446744073709551616)) / 18446744073709551616) :
    IntKind.u64.wrap (hiW S + IntKind.u64.wrap (18446744073709551615 + c)) = hiW (S + x) := by
  rw [IntKind.wrap_u64, IntKind.wrap_u64]; unfold hiW; unfold loW at hc; omega
theorem hi_pos (S x c : Int) (hx : 0 ≤ x) (hx1 : x ≤ 9223372036854775807) (hc : c = (loW S + x) / 18446744073709551616) :
    IntKind.u64.wrap (hiW S + c) = hiW (S + x) := by
  rw [IntKind.wrap_u64]; unfold hiW; unfold loW at hc; omega

set_option maxHeartbeats 1000000 in
theorem sum_row (l : List Int) (b o cap : Nat) (w : World) (hr : Row w b o l) (hi : InI l) (hn : l.length ≤ 1152921504606846976) :
    Calls Tryz.prog 44 #[.slice (some ⟨b, o, none⟩) l.length cap] w fun e w' => e = .returned (.tuple #[.int .i64 (fitN (sumL l)), .int .i64 (fitE (sumL l))]) ∧ w = w' := by
  have HI : Hid _ := hi
  obtain ⟨n, hnl⟩ : ∃ n, n = l.length := ⟨_, rfl⟩
  have HN := Lib.hid hnl
  rw [← hnl] at hn ⊢
  have hcw : ∀ t, t < n → w.cell? ⟨b, o + t, none⟩ = some (.int .i64 (l.getD t 0)) := fun t ht => hr t (by omega)
  clear hr hi hnl
  go_enter Tryz.func44, Tryz.ntmps44
  go_wp2
  go_loop [4, 5, 6, 8, 12] (fun vh vl vc vn vi => ∃ k : Nat, k ≤ n ∧ vi = .int .i64 k ∧ vh = .int .u64 (hiW (sumK l k)) ∧ vl = .int .u64 (loW (sumK l k))) (fun _ _ _ _ vi => n - (intOf vi).toNat)
  case atStart => exact ⟨0, Nat.zero_le _, rfl, rfl, rfl⟩
  case round =>
    obtain ⟨k, hk, rfl, rfl, rfl⟩ := hrel
    by_cases hlt : k < n
    · obtain ⟨x, hx⟩ : ∃ x, x = l.getD k 0 := ⟨_, rfl⟩
      have hcx : w.cell? ⟨b, o + k, none⟩ = some (.int .i64 x) := by rw [hx]; exact hcw k hlt
      have hx0 : -9223372036854775808 ≤ x := by rw [hx]; exact (HI.out k).1
      have hx1 : x ≤ 9223372036854775807 := by rw [hx]; exact (HI.out k).2
      obtain ⟨S, hS⟩ : ∃ S, S = sumK l k := ⟨_, rfl⟩
      obtain ⟨hl0, hl1⟩ := loW_bd S
      obtain ⟨hh0, hh1⟩ := hiW_bd S
      have HX := Lib.hid hx
      have HS := Lib.hid hS
      rw [← hS]
      clear hcw hx hS
      by_cases hneg : x < 0
      · obtain ⟨c, hc⟩ : ∃ c, c = (loW S + (x + 18446744073709551616)) / 18446744073709551616 := ⟨_, rfl⟩
        have hxw : IntKind.u64.wrap x = x + 18446744073709551616 := by rw [IntKind.wrap_u64]; omega
        have hadd : ∀ w, (callFunc 72 #[.int .u64 (loW S), .int .u64 (x + 18446744073709551616), .int .u64 0]).run Tryz.prog w = .ok (.value (.tuple #[.int .u64 (loW (S + x)), .int .u64 c])) w := by
          intro w; rw [add64_run _ _ hl0 (by omega), hc]
          rw [show (loW S + (x + 18446744073709551616)) % 18446744073709551616 = loW (S + x) from by unfold loW; omega]
        have hc0 : 0 ≤ c := by omega
        have hc1 : c ≤ 1 := by omega
        have HCy := Lib.hid hc
        clear hc
        have hsb := signBits_any x w
        rw [if_pos hneg] at hsb
        have HSB := Lib.hid hsb
        clear hsb
        go_wp2_with (go_at_call 73; refine HSB.out.mono ?_; rintro e w' ⟨rfl, rfl⟩)
        go_round
        case rel => exact ⟨k + 1, by omega, by go_num, num_eqS (by rw [sumK, ← HS.out, ← HX.out]; exact hi_neg S x c hneg hx0 HCy.out), num_eqS (by rw [sumK, ← HS.out, ← HX.out])⟩
        case measure => simp [intOf]; omega
      · obtain ⟨c, hc⟩ : ∃ c, c = (loW S + x) / 18446744073709551616 := ⟨_, rfl⟩
        have hadd : ∀ w, (callFunc 72 #[.int .u64 (loW S), .int .u64 x, .int .u64 0]).run Tryz.prog w = .ok (.value (.tuple #[.int .u64 (loW (S + x)), .int .u64 c])) w := by
          intro w; rw [add64_run _ _ hl0 (by omega), hc]
          rw [show (loW S + x) % 18446744073709551616 = loW (S + x) from by unfold loW; omega]
        have hc0 : 0 ≤ c := by omega
        have hc1 : c ≤ 1 := by omega
        have HCy := Lib.hid hc
        clear hc
        have hsb := signBits_any x w
        rw [if_neg hneg] at hsb
        have HSB := Lib.hid hsb
        clear hsb
        go_wp2_with (go_at_call 73; refine HSB.out.mono ?_; rintro e w' ⟨rfl, rfl⟩)
        go_round
        case rel => exact ⟨k + 1, by omega, by go_num, num_eqS (by rw [sumK, ← HS.out, ← HX.out]; exact hi_pos S x c (by omega) hx1 HCy.out), num_eqS (by rw [sumK, ← HS.out, ← HX.out])⟩
        case measure => simp [intOf]; omega
    · obtain rfl : k = n := by omega
      obtain ⟨S, hS⟩ : ∃ S, S = sumK l k := ⟨_, rfl⟩
      have hbd := sumK_bd HI.out k
      rw [← hS] at hbd ⊢
      have hb0 : -10633823966279326983230456482242756608 ≤ S := by omega
      have hb1 : S ≤ 10633823966279326983230456482242756608 := by omega
      have HT : Hid (sumL l = S) := Lib.hid (by unfold sumL; rw [← HN.out, hS])
      obtain ⟨hl0, hl1⟩ := loW_bd S
      obtain ⟨hh0, hh1⟩ := hiW_bd S
      have HB0 := Lib.hid hb0
      have HB1 := Lib.hid hb1
      clear hbd hS hcw hb0 hb1
      by_cases hin : inR S = true
      · have hr := (inR_iff S).1 hin
        have HIn := Lib.hid hin
        clear hin
        by_cases hp : 0 ≤ S
        · have hlo : loW S = S := by unfold loW; omega
          have hhi : hiW S = 0 := by unfold hiW; omega
          have hsb := signBits_any S w
          rw [if_neg (by omega)] at hsb
          have HSB := Lib.hid hsb
          clear hsb
          go_wp2_with (go_at_call 73; refine HSB.out.mono ?_; rintro e w' ⟨rfl, rfl⟩)
          go_ret2
          exact ⟨ret_two (by rw [HT.out, fitN_in HIn.out]) (by rw [HT.out, fitE_in HIn.out]), rfl⟩
        · have hlo : wrap64 (loW S) = S := by unfold wrap64 loW; omega
          have hhi : hiW S = 18446744073709551615 := by unfold hiW; omega
          have hsb := signBits_any S w
          rw [if_pos (by omega)] at hsb
          have HSB := Lib.hid hsb
          clear hsb
          go_wp2_with (go_at_call 73; refine HSB.out.mono ?_; rintro e w' ⟨rfl, rfl⟩)
          go_ret2
          exact ⟨ret_two (by rw [HT.out, fitN_in HIn.out]) (by rw [HT.out, fitE_in HIn.out]), rfl⟩
      · have HOut : Hid (inR S = false) := Lib.hid (by simpa using hin)
        have hr : ¬ (-9223372036854775808 ≤ S ∧ S ≤ 9223372036854775807) := fun g => hin ((inR_iff S).2 g)
        clear hin
        by_cases hp : loW S ≤ 9223372036854775807
        · have hhi : (hiW S != 0) = true := by
            have := HB0.out; have := HB1.out
            simp only [bne_iff_ne, ne_eq]; unfold hiW loW at *; omega
          have hsb := signBits_any (loW S) w
          rw [if_neg (by omega)] at hsb
          have HSB := Lib.hid hsb
          clear hsb hr
          go_wp2_with (go_at_call 73; refine HSB.out.mono ?_; rintro e w' ⟨rfl, rfl⟩)
          go_ret2
          exact ⟨ret_two (by rw [HT.out, fitN_out HOut.out]) (by rw [HT.out, fitE_out HOut.out]), rfl⟩
        · obtain ⟨v, hv⟩ : ∃ v, wrap64 (loW S) = v := ⟨_, rfl⟩
          have hhi : (hiW S != 18446744073709551615) = true := by
            have := HB0.out; have := HB1.out
            simp only [bne_iff_ne, ne_eq]; unfold hiW loW at *; omega
          have hsb := signBits_any v w
          rw [if_pos (by unfold wrap64 at hv; omega)] at hsb
          have HSB := Lib.hid hsb
          clear hsb hr
          go_wp2_with (go_at_call 73; refine HSB.out.mono ?_; rintro e w' ⟨rfl, rfl⟩)
          go_ret2
          exact ⟨ret_two (by rw [HT.out, fitN_out HOut.out]) (by rw [HT.out, fitE_out HOut.out]), rfl⟩

/-- No number at all. -/
theorem sum_nil (a : Option Addr) (cap : Nat) (w : World) :
    Calls Tryz.prog 44 #[.slice a (0 : Nat) cap] w fun e w' => e = .returned (.tuple #[.int .i64 0, .int .i64 0]) ∧ w = w' := by
  have hsb := signBits_any 0 w
  rw [if_neg (by omega)] at hsb
  have HSB := Lib.hid hsb
  clear hsb
  go_enter Tryz.func44, Tryz.ntmps44
  go_wp2
  refine wp_loop_rounds 1 ?_
  rw [rounds_succ]
  go_wp2_with (go_at_call 73; refine HSB.out.mono ?_; rintro e w' ⟨rfl, rfl⟩)
  go_ret2
  exact ⟨rfl, rfl⟩

end Go.Proofs.YtgeneoamngfomaaGreatDoor

namespace Go.Proofs.YtgeneoamngfomaaGreatDoor
open Go.RowKit
set_option linter.unusedVariables false

end Go.Proofs.YtgeneoamngfomaaGreatDoor

namespace Go.Proofs.YtgeneoamngfomaaGreatDoor
set_option linter.unusedVariables false

theorem canon_bitsN (n : Nat) : Canon (bitsN n) := by
  induction n using Nat.strongRecOn with
  | _ n ih =>
    by_cases h : n = 0
    · rw [h, bitsN_zero]; exact Or.inl rfl
    · right
      rw [bitsN_pos h]
      by_cases e : n / 2 = 0
      · rw [e, bitsN_zero]
        have : n = 1 := by omega
        subst this; simp
      · have hne : bitsN (n / 2) ≠ [] := fun g => e (bitsN_nil g)
        rcases ih (n / 2) (by omega) with g | g
        · exact absurd g hne
        · have : (bitsN (n / 2)).length ≠ 0 := fun g => hne (List.length_eq_zero_iff.1 g)
          obtain ⟨m, hm⟩ : ∃ m, (bitsN (n / 2)).length = m + 1 := ⟨(bitsN (n / 2)).length - 1, by omega⟩
          simp only [List.length_cons, hm, Nat.add_sub_cancel] at g ⊢
          simpa using g

end Go.Proofs.YtgeneoamngfomaaGreatDoor

namespace Go.Proofs.YtgeneoamngfomaaGreatDoor
open Go.RowKit
set_option linter.unusedVariables false

set_option maxHeartbeats 1000000 in
theorem trim_any (l : List Int) (a : Option Addr) (cap : Nat) (w : World) (h : SLF w a l) (hb : IsBits l) (hc : l.length ≤ cap) (hcap : cap ≤ 9223372036854775807) (hn : l.length ≤ 1152921504606846976) :
    Calls Tryz.prog 106 #[.slice a l.length cap] w fun e w' => (∃ v, e = .returned v ∧ SL w v (bitsN (val l))) ∧ w' = w := by
  have HSL : Hid _ := h
  have HB : Hid _ := hb
  clear h hb
  go_enter Tryz.func106, Tryz.ntmps106
  go_wp2
  go_loop [3] (fun vn => ∃ n : Nat, vn = .int .i64 n ∧ TrimK l n) (fun vn => (intOf vn).toNat)
  case atStart => exact ⟨l.length, rfl, Nat.le_refl _, fun t h1 h2 => by omega⟩
  case round =>
    obtain ⟨n, rfl, hk⟩ := hrel
    have hnl : n ≤ l.length := hk.1
    by_cases c : 0 < n
    · obtain ⟨b, o, ha, hbs, hr⟩ := SLF.cell HSL.out (show n - 1 < l.length by omega)
      obtain ⟨x, hx⟩ : ∃ x, x = l.getD (n - 1) 0 := ⟨_, rfl⟩
      have hcx : w.cell? ⟨b, o + (n - 1), none⟩ = some (.int .i64 x) := by rw [hx]; exact hr (n - 1) (by omega)
      have HX := Lib.hid hx
      have HA := Lib.hid ha
      subst ha
      clear hx hr
      by_cases hz : x = 0
      · have hzb : (x == 0) = true := by simpa using hz
        have HZ := Lib.hid hz
        clear hz
        go_wp2
        go_round
        case rel =>
          refine ⟨n - 1, by go_num, by omega, fun t h1 h2 => ?_⟩
          by_cases e : t = n - 1
          · rw [e, ← HX.out]; exact HZ.out
          · exact hk.2 t (by omega) h2
        case measure => simp [intOf]; omega
      · have hzb : (x == 0) = false := by simpa using hz
        have HZ := Lib.hid hz
        clear hz
        go_wp2
        go_ret
        have he := trim_eq HB.out hnl hk.2 (Or.inr (by rw [← HX.out]; exact HZ.out))
        exact ⟨⟨_, rfl, SL.of_take HSL.out hnl hc hcap he⟩, rfl⟩
    · obtain rfl : n = 0 := by omega
      have he := trim_eq HB.out hnl hk.2 (Or.inl rfl)
      have HE := Lib.hid he
      clear he
      go_wp2
      go_ret
      exact ⟨⟨_, rfl, SL.of_take HSL.out hnl hc hcap HE.out⟩, rfl⟩

end Go.Proofs.YtgeneoamngfomaaGreatDoor

namespace Go.Proofs.YtgeneoamngfomaaGreatDoor
open Go.RowKit
set_option linter.unusedVariables false

structure PlusInv (a b : List Int) (i : Nat) (c : Int) (out : List Int) : Prop where
  len : out.length = i
  bits : IsBits out
  c01 : c = 0 ∨ c = 1
  sum : val out + 2 ^ i * (c.toNat + val (a.drop i) + val (b.drop i)) = val a + val b
  lim : (i ≤ a.length ∨ i ≤ b.length) ∨ (c = 0 ∧ (i ≤ a.length + 1 ∧ i ≤ b.length + 1 ∨ i ≤ a.length + 1 ∨ i ≤ b.length + 1))
  top : Canon a → Canon b → i = 0 ∨ out.getD (i - 1) 0 ≠ 0 ∨ c = 1 ∨ i < a.length ∨ i < b.length

theorem getD_snoc (l : List Int) (x : Int) : (l ++ [x]).getD l.length 0 = x := by
  rw [List.getD_eq_getElem?_getD, List.getElem?_append_right (Nat.le_refl _)]; simp

theorem PlusInv.step {a b : List Int} (ha : IsBits a) (hb : IsBits b) {i : Nat} {c : Int} {out : List Int} (h : PlusInv a b i c out) (hc : i < a.length ∨ i < b.length ∨ c = 1) :
    PlusInv a b (i + 1) ((a.getD i 0 + b.getD i 0 + c) / 2) (out ++ [(a.getD i 0 + b.getD i 0 + c) % 2]) := by
  have xa := ha i
  have xb := hb i
  have xc := h.c01
  have da := val_drop a i
  have db := val_drop b i
  have hl := h.len
  refine ⟨by rw [List.length_append, hl]; rfl, h.bits.snoc (by omega), by omega, ?_, ?_, ?_⟩
  · have hs := h.sum
    rw [val_snoc, hl, Nat.pow_succ, Nat.mul_assoc, Nat.add_assoc, ← Nat.mul_add]
    rw [da, db] at hs
    rw [← hs]
    congr 2
    generalize val (a.drop (i + 1)) = A
    generalize val (b.drop (i + 1)) = B
    omega
  · rcases h.lim with g | ⟨g0, g⟩
    · by_cases c1 : i + 1 ≤ a.length ∨ i + 1 ≤ b.length
      · exact Or.inl c1
      · right
        have za : ¬ i < a.length := by omega
        have zb : ¬ i < b.length := by omega
        have ea : a.getD i 0 = 0 := by rw [List.getD_eq_getElem?_getD, List.getElem?_eq_none (by omega)]; rfl
        have eb : b.getD i 0 = 0 := by rw [List.getD_eq_getElem?_getD, List.getElem?_eq_none (by omega)]; rfl
        rw [ea, eb]
        refine ⟨by omega, ?_⟩
        omega
    · omega
  · intro ca cb
    right
    by_cases e : (a.getD i 0 + b.getD i 0 + c) % 2 = 0
    · by_cases e2 : (a.getD i 0 + b.getD i 0 + c) / 2 = 1
      · exact Or.inr (Or.inl e2)
      · right; right
        have z1 : a.getD i 0 = 0 := by omega
        have z2 : b.getD i 0 = 0 := by omega
        rcases hc with g | g | g
        · left
          rcases Nat.lt_or_ge (i + 1) a.length with k | k
          · exact k
          · rcases ca with k2 | k2
            · rw [k2] at g; simp at g
            · rw [show a.length - 1 = i from by omega] at k2; exact absurd z1 k2
        · right
          rcases Nat.lt_or_ge (i + 1) b.length with k | k
          · exact k
          · rcases cb with k2 | k2
            · rw [k2] at g; simp at g
            · rw [show b.length - 1 = i from by omega] at k2; exact absurd z2 k2
        · omega
    · left
      have hg := getD_snoc out ((a.getD i 0 + b.getD i 0 + c) % 2)
      rw [hl] at hg
      rw [Nat.add_sub_cancel, hg]; exact e

theorem PlusInv.start (a b : List Int) : PlusInv a b 0 0 [] := ⟨rfl, IsBits.nil, Or.inl rfl, by simp [val], Or.inl (Or.inl (Nat.zero_le _)), fun _ _ => Or.inl rfl⟩
theorem PlusInv.done {a b : List Int} {i : Nat} {c : Int} {out : List Int} (h : PlusInv a b i c out) (h1 : ¬ i < a.length) (h2 : ¬ i < b.length) (h3 : c = 0) :
    val out = val a + val b ∧ IsBits out ∧ (Canon a → Canon b → Canon out) := by
  have hs := h.sum
  rw [List.drop_eq_nil_of_le (by omega), List.drop_eq_nil_of_le (by omega), h3] at hs
  refine ⟨by simpa [val] using hs, h.bits, fun ca cb => ?_⟩
  have hl := h.len
  rcases h.top ca cb with g | g | g | g | g
  · left; exact List.length_eq_zero_iff.1 (by omega)
  · right; rw [hl]; exact g
  · omega
  · omega
  · omega

/-- What plus leaves. -/
def PlusPost (a b : List Int) (w : World) (e : Ending) (w' : World) : Prop :=
  ∃ v out, e = .returned v ∧ Own w' w.heap.size v out ∧ Below w.heap.size w w' ∧ val out = val a + val b ∧ IsBits out ∧ (Canon a → Canon b → Canon out) ∧ (out.length ≤ a.length + 1 ∨ out.length ≤ b.length + 1)

set_option maxHeartbeats 2000000 in
set_option maxRecDepth 100000 in
theorem plus_any (a b : List Int) (p p' : Option Addr) (c c' : Nat) (w : World) (h : SLF w p a) (h' : SLF w p' b) (ha : IsBits a) (hb : IsBits b) (hn : a.length ≤ 100000) (hn' : b.length ≤ 100000) :
    Calls Tryz.prog 63 #[.slice p a.length c, .slice p' b.length c'] w (PlusPost a b w) := by
  have H : Hid _ := h
  have H' : Hid _ := h'
  have HA : Hid _ := ha
  have HB : Hid _ := hb
  obtain ⟨i0, hi0, hz0, hz1, hz2⟩ := info_parts Tryz.infoI
  clear h h' ha hb
  go_enter Tryz.func63, Tryz.ntmps63
  go_wp2
  go_loopw [5, 6, 7, 8] (fun v vc vi vn wx => ∃ (i : Nat) (k : Int) (out : List Int), vi = .int .i64 i ∧ vc = .int .i64 k ∧ PlusInv a b i k out ∧ Own wx w.heap.size v out ∧ Below w.heap.size w wx) (fun _ _ vi _ _ => 200010 - (intOf vi).toNat)
  case atStart => exact ⟨0, 0, [], rfl, rfl, PlusInv.start a b, Own.nil _ _, Below.refl _ _⟩
  case round =>
    obtain ⟨i, k, out, rfl, rfl, hinv, hown, hbel⟩ := hrel
    have hlim : i ≤ 100001 := by rcases hinv.lim with g | g <;> omega
    have hk0 : 0 ≤ k := by rcases hinv.c01 with g | g <;> omega
    have hk1 : k ≤ 1 := by rcases hinv.c01 with g | g <;> omega
    have hsz : w.heap.size ≤ wr.heap.size := hbel.size
    by_cases hc : i < a.length ∨ i < b.length ∨ k = 1
    · obtain ⟨x, hx⟩ : ∃ x, x = a.getD i 0 := ⟨_, rfl⟩
      obtain ⟨y, hy⟩ : ∃ y, y = b.getD i 0 := ⟨_, rfl⟩
      have c1 := at_any a p c i wr (SLF.keep H.out hbel) (by omega) (by omega)
      have c2 := at_any b p' c' i wr (SLF.keep H'.out hbel) (by omega) (by omega)
      rw [← hx] at c1
      rw [← hy] at c2
      have HC1 := Lib.hid c1
      have HC2 := Lib.hid c2
      have hx01 : x = 0 ∨ x = 1 := by rw [hx]; exact HA.out i
      have hy01 : y = 0 ∨ y = 1 := by rw [hy]; exact HB.out i
      have x0 : 0 ≤ x := by omega
      have x1 : x ≤ 1 := by omega
      have y0 : 0 ≤ y := by omega
      have y1 : y ≤ 1 := by omega
      have HStep := Lib.hid (hinv.step HA.out HB.out hc)
      have hlen : out.length = i := hinv.len
      have h63 : out.length + 1 ≤ maxLen := by unfold maxLen; omega
      have hby : (out.length + 1) * 8 ≤ 140737488355328 := by omega
      have HX := Lib.hid hx
      have HY := Lib.hid hy
      have HInv := Lib.hid hinv
      have HBel := Lib.hid hbel
      have HLen := Lib.hid hlen
      have HCond := Lib.hid hc
      clear c1 c2 hx hy hx01 hy01 hinv hbel hlen hc
      go_upto_region 4 with fail
      go_cut [22] (fun t wx => t = .bool true ∧ wr = wx)
      case first =>
        by_cases g1 : i < a.length
        · go_wp2_with fail
          go_meet
          case rel => exact ⟨rfl, rfl⟩
        · by_cases g2 : i < b.length
          · go_wp2_with fail
            go_meet
            case rel => exact ⟨rfl, rfl⟩
          · have g3 : 0 < k := by rcases HCond.out with g | g | g <;> omega
            go_wp2_with fail
            go_meet
            case rel => exact ⟨rfl, rfl⟩
      case rest =>
      obtain ⟨rfl, rfl⟩ := hcut
      go_upto_region 6 with fail
      go_cut [8] (fun vn wx => vn = .int .i64 (x + y + k) ∧ wr = wx)
      case first =>
        go_wp2_with fail
        refine HC1.out.mono ?_
        rintro e w' ⟨rfl, rfl⟩
        go_wp2_with fail
        refine HC2.out.mono ?_
        rintro e w' ⟨rfl, rfl⟩
        go_wp2_with fail
        go_meet
        case rel => exact ⟨rfl, rfl⟩
      case rest =>
        obtain ⟨rfl, rfl⟩ := hcut
        go_wp2_with (at_builtin; refine wpList_append_own _ rfl _ _ 83 rfl w.heap.size 3 i0 (.int .i64 0) 1 8 Tryz.underlying83 hi0 hz0 hz1 hz2 rfl (by decide) _ _ _ rfl (hown.alloc _) ⟨wr.heap.size, 0, none⟩ 1 1 [.int .i64 ((x + y + k) % 2)] rfl rfl (one_cell wr _ _) (one_one _) h63 hby (by simp; omega) ?_; intro v' w1 hown' hgrow _)
        have HO := Lib.hid (own_snoc hown')
        have HB2 := Lib.hid (below_append HBel.out hown (Nat.le_refl _) hsz hgrow)
        clear hown' hgrow hown
        go_wp2
        go_roundw
        case rel => exact ⟨i + 1, (x + y + k) / 2, out ++ [(x + y + k) % 2], by go_num, rfl, by have := HStep.out; rw [← HX.out, ← HY.out] at this; exact this, HO.out, HB2.out⟩
        case measure => simp [intOf]; omega
    · have na : a.length ≤ i := by omega
      have nb : b.length ≤ i := by omega
      have hk : k = 0 := by omega
      have hd := hinv.done (by omega) (by omega) hk
      have HD := Lib.hid hd
      have hlim2 : out.length ≤ a.length + 1 ∨ out.length ≤ b.length + 1 := by rw [hinv.len]; rcases hinv.lim with g | g <;> omega
      have HL2 := Lib.hid hlim2
      have HBel := Lib.hid hbel
      have HO := Lib.hid hown
      subst hk
      clear hd hinv hlim2 hbel hown hc
      go_wp2
      go_ret
      exact ⟨_, out, rfl, HO.out, HBel.out, HD.out.1, HD.out.2.1, HD.out.2.2, HL2.out⟩

/-- What minus leaves. -/
def MinusPost (x : Nat) (w : World) (e : Ending) (w' : World) : Prop := ∃ v, e = .returned v ∧ SL w' v (bitsN x) ∧ Below w.heap.size w w'

set_option maxHeartbeats 2000000 in
set_option maxRecDepth 100000 in
theorem minus_any (a b : List Int) (p p' : Option Addr) (c c' : Nat) (w : World) (h : SLF w p a) (h' : SLF w p' b) (ha : IsBits a) (hb : IsBits b) (hn : a.length ≤ 100000) (hn' : b.length ≤ 100000) (hab : val b ≤ val a) :
    Calls Tryz.prog 107 #[.slice p a.length c, .slice p' b.length c'] w (MinusPost (val a - val b) w) := by
  have H : Hid _ := h
  have H' : Hid _ := h'
  have HA : Hid _ := ha
  have HB : Hid _ := hb
  have HAB := Lib.hid hab
  obtain ⟨i0, hi0, hz0, hz1, hz2⟩ := info_parts Tryz.infoI
  clear h h' ha hb hab
  go_enter Tryz.func107, Tryz.ntmps107
  go_wp2
  go_loopw [5, 6, 7, 8] (fun v vc vi vn wx => ∃ (i : Nat) (k : Int) (out : List Int), vi = .int .i64 i ∧ vc = .int .i64 k ∧ MinInv a b i k out ∧ Own wx w.heap.size v out ∧ Below w.heap.size w wx) (fun _ _ vi _ _ => a.length - (intOf vi).toNat)
  case atStart => exact ⟨0, 0, [], rfl, rfl, MinInv.start a b, Own.nil _ _, Below.refl _ _⟩
  case round =>
    obtain ⟨i, k, out, rfl, rfl, hinv, hown, hbel⟩ := hrel
    have hk0 : 0 ≤ k := by rcases hinv.c01 with g | g <;> omega
    have hk1 : k ≤ 1 := by rcases hinv.c01 with g | g <;> omega
    have hsz : w.heap.size ≤ wr.heap.size := hbel.size
    have hil : i ≤ a.length := hinv.lim
    by_cases hc : i < a.length
    · obtain ⟨x, hx⟩ : ∃ x, x = a.getD i 0 := ⟨_, rfl⟩
      obtain ⟨y, hy⟩ : ∃ y, y = b.getD i 0 := ⟨_, rfl⟩
      obtain ⟨bb, oo, hpa, hpb, hpr⟩ := (SLF.keep H.out hbel).cell hc
      subst hpa
      have hcx : wr.cell? ⟨bb, oo + i, none⟩ = some (.int .i64 x) := by rw [hx]; exact hpr i hc
      have hbl : SLF wr p' b := SLF.keep H'.out hbel
      have c2 : ∀ nq, Calls Tryz.prog 64 #[.slice p' b.length c', .int .i64 i] (wr.drewN nq) fun e w' => e = .returned (.int .i64 y) ∧ w' = wr.drewN nq := fun nq => by
        rw [hy]; exact at_any b p' c' i (wr.drewN nq) (hbl.keep (drewN_below' wr nq)) (by omega) (by omega)
      have HC2 := Lib.hid c2
      have hx01 : x = 0 ∨ x = 1 := by rw [hx]; exact HA.out i
      have hy01 : y = 0 ∨ y = 1 := by rw [hy]; exact HB.out i
      have x0 : 0 ≤ x := by omega
      have x1 : x ≤ 1 := by omega
      have y0 : 0 ≤ y := by omega
      have y1 : y ≤ 1 := by omega
      have i1 : (i : Int) < (a.length : Int) := by omega
      have w1 : IntKind.i64.wrap (x - y) = x - y := IntWalk.i64_in _ (by omega)
      have w2 : IntKind.i64.wrap (x - y - k) = x - y - k := IntWalk.i64_in _ (by omega)
      have hlen : out.length = i := hinv.len
      have h63 : out.length + 1 ≤ maxLen := by unfold maxLen; omega
      have hby : (out.length + 1) * 8 ≤ 140737488355328 := by omega
      have HX := Lib.hid hx
      have HY := Lib.hid hy
      have HInv := Lib.hid hinv
      have HBel := Lib.hid hbel
      have HLen := Lib.hid hlen
      clear c2 hx hy hx01 hy01 hinv hbel hlen hpr hbl
      go_wp2_with fail
      go_quiet (first | (go_at_call 64; refine Calls.quiet_of_same (HC2.out _)))
      have HOd : Hid (Own (wr.drewN nq) w.heap.size u5 out) := Lib.hid (hown.grown (drewN_below' wr nq))
      have HBd : Hid (Below w.heap.size w (wr.drewN nq)) := Lib.hid (HBel.out.trans ((drewN_below' wr nq).mono hsz))
      have hsz5 : w.heap.size ≤ (wr.drewN nq).heap.size := hsz
      clear w1 w2 hcx HC2 hown HBel hsz
      generalize wr.drewN nq = w5 at *
      have hown5 := HOd.out
      clear HOd
      by_cases hneg : x - y - k < 0
      · go_wp2_with (at_builtin; refine wpList_append_own _ rfl _ _ 83 rfl w.heap.size 3 i0 (.int .i64 0) 1 8 Tryz.underlying83 hi0 hz0 hz1 hz2 rfl (by decide) _ _ _ rfl (hown5.alloc _) ⟨w5.heap.size, 0, none⟩ 1 1 [.int .i64 (x - y - k + 2)] rfl rfl (one_cell w5 _ _) (one_one _) h63 hby (by simp; omega) ?_; intro v' w1 hown' hgrow _)
        have HO := Lib.hid (own_snoc hown')
        have HB2 := Lib.hid (below_append HBd.out hown5 (Nat.le_refl _) hsz5 hgrow)
        clear hown' hgrow hown5
        go_wp2
        go_roundw
        case rel => exact ⟨i + 1, 1, out ++ [(x - y - k + 2)], by go_num, rfl, HInv.out.step HA.out HB.out hc _ _ (by rw [← HX.out, ← HY.out]; omega) (by omega) (by omega), HO.out, HB2.out⟩
        case measure => simp [intOf]; omega
      · go_wp2_with (at_builtin; refine wpList_append_own _ rfl _ _ 83 rfl w.heap.size 3 i0 (.int .i64 0) 1 8 Tryz.underlying83 hi0 hz0 hz1 hz2 rfl (by decide) _ _ _ rfl (hown5.alloc _) ⟨w5.heap.size, 0, none⟩ 1 1 [.int .i64 (x - y - k)] rfl rfl (one_cell w5 _ _) (one_one _) h63 hby (by simp; omega) ?_; intro v' w1 hown' hgrow _)
        have HO := Lib.hid (own_snoc hown')
        have HB2 := Lib.hid (below_append HBd.out hown5 (Nat.le_refl _) hsz5 hgrow)
        clear hown' hgrow hown5
        go_wp2
        go_roundw
        case rel => exact ⟨i + 1, 0, out ++ [(x - y - k)], by go_num, rfl, HInv.out.step HA.out HB.out hc _ _ (by rw [← HX.out, ← HY.out]; omega) (by omega) (by omega), HO.out, HB2.out⟩
        case measure => simp [intOf]; omega
    · obtain rfl : a.length = i := by omega
      have hd := hinv.done HAB.out
      have HD := Lib.hid hd
      have hsl := hown.sl
      have hlen := hinv.len
      obtain ⟨aa, cc, hv, l1, l2, l3⟩ := hsl
      have HT := Lib.hid (trim_any out aa cc wr l3 hd.2 l1 l2 (by omega))
      rw [hd.1] at HT
      have HBel := Lib.hid hbel
      have HV := Lib.hid hv
      subst hv
      clear hinv hown hd hlen hbel l3
      go_wp2_with (go_at_call 106; refine HT.out.mono ?_; rintro e w' ⟨⟨v, rfl, hs⟩, rfl⟩)
      go_ret
      exact ⟨_, rfl, ‹SL _ _ _›, HBel.out⟩

end Go.Proofs.YtgeneoamngfomaaGreatDoor

namespace Go.Proofs.YtgeneoamngfomaaGreatDoor
open Go.RowKit
set_option linter.unusedVariables false

end Go.Proofs.YtgeneoamngfomaaGreatDoor

namespace Go.Proofs.YtgeneoamngfomaaGreatDoor
open Go.RowKit
set_option linter.unusedVariables false

/-- What three new blocks hold, behind a call that leaves them alone. -/
theorem after3 {w w' : World} {s0 s1 t0 t1 u0 u1 : Value} {e1 e2 e3 : TypeId} (hb : Below (((w.alloc (.cells #[s0, s1] e1)).alloc (.cells #[t0, t1] e2)).alloc (.cells #[u0, u1] e3)).drew.heap.size (((w.alloc (.cells #[s0, s1] e1)).alloc (.cells #[t0, t1] e2)).alloc (.cells #[u0, u1] e3)).drew w') :
    w'.cell? ⟨w.heap.size, 0, none⟩ = some s0 ∧ w'.cell? ⟨w.heap.size, 1, none⟩ = some s1 ∧ w'.cell? ⟨w.heap.size + 1, 0, none⟩ = some t0 ∧ w'.cell? ⟨w.heap.size + 1, 1, none⟩ = some t1 ∧
    w'.cell? ⟨w.heap.size + 1 + 1, 0, none⟩ = some u0 ∧ w'.cell? ⟨w.heap.size + 1 + 1, 1, none⟩ = some u1 ∧ w'.frozen? ⟨w.heap.size + 1 + 1, 0, none⟩ = false ∧ w'.frozen? ⟨w.heap.size + 1 + 1, 1, none⟩ = false ∧ w.heap.size + 3 ≤ w'.heap.size := by
  have hs := hb.size
  have z1 : (w.alloc (.cells #[s0, s1] e1)).heap.size = w.heap.size + 1 := by simp
  have z2 : ((w.alloc (.cells #[s0, s1] e1)).alloc (.cells #[t0, t1] e2)).heap.size = w.heap.size + 1 + 1 := by simp
  have z3 : (((w.alloc (.cells #[s0, s1] e1)).alloc (.cells #[t0, t1] e2)).alloc (.cells #[u0, u1] e3)).drew.heap.size = w.heap.size + 3 := by show (((w.alloc _).alloc _).alloc _).heap.size = _; simp
  have old : ∀ (b i : Nat), b < w.heap.size + 3 → w'.cell? ⟨b, i, none⟩ = (((w.alloc (.cells #[s0, s1] e1)).alloc (.cells #[t0, t1] e2)).alloc (.cells #[u0, u1] e3)).cell? ⟨b, i, none⟩ := fun b i h => hb.cell (p := ⟨b, i, none⟩) (by rw [z3]; exact h)
  have oldf : ∀ (b i : Nat), b < w.heap.size + 3 → w'.frozen? ⟨b, i, none⟩ = (((w.alloc (.cells #[s0, s1] e1)).alloc (.cells #[t0, t1] e2)).alloc (.cells #[u0, u1] e3)).frozen? ⟨b, i, none⟩ := fun b i h => hb.frozen (p := ⟨b, i, none⟩) (by rw [z3]; exact h)
  have nu : ∀ i v, #[u0, u1][i]? = some v → w'.cell? ⟨w.heap.size + 1 + 1, i, none⟩ = some v := fun i v h => by
    rw [old _ _ (by omega), ← z2]; exact new_at h
  have nt : ∀ i v, #[t0, t1][i]? = some v → w'.cell? ⟨w.heap.size + 1, i, none⟩ = some v := fun i v h => by
    rw [old _ _ (by omega), World.cell?_alloc_past _ _ _ (by omega), ← z1]; exact new_at h
  have ns : ∀ i v, #[s0, s1][i]? = some v → w'.cell? ⟨w.heap.size, i, none⟩ = some v := fun i v h => by
    rw [old _ _ (by omega), World.cell?_alloc_past _ _ _ (by omega), World.cell?_alloc_past _ _ _ (by omega)]; exact new_at h
  refine ⟨ns 0 _ rfl, ns 1 _ rfl, nt 0 _ rfl, nt 1 _ rfl, nu 0 _ rfl, nu 1 _ rfl, ?_, ?_, by omega⟩
  · rw [oldf _ _ (by omega)]; exact World.frozen?_alloc_at _ _ _ _ z2.symm
  · rw [oldf _ _ (by omega)]; exact World.frozen?_alloc_at _ _ _ _ z2.symm

theorem big_end3 {w w3 w' : World} {v : Value} {z : Int} {b : Bool} (h3 : Below w.heap.size w w3) (hs3 : w.heap.size + 3 ≤ w3.heap.size) (hb : Below w3.heap.size w3 w') (hs : SL w' v (bitsN z.natAbs)) (hz : b = decide (z < 0)) {u0 : Bool} {a1 : Option Addr} {n1 c1 : Nat}
    (k4 : w'.cell? ⟨w.heap.size + 1 + 1, 0, none⟩ = some (.bool u0)) (k5 : w'.cell? ⟨w.heap.size + 1 + 1, 1, none⟩ = some (.slice a1 n1 c1)) :
    (∃ u, Ending.returned (.agg #[.bool b, v]) = .returned u ∧ BigV ((w'.setCell ⟨w.heap.size + 1 + 1, 0, none⟩ (.bool b)).setCell ⟨w.heap.size + 1 + 1, 1, none⟩ v) u z) ∧ Below w.heap.size w ((w'.setCell ⟨w.heap.size + 1 + 1, 0, none⟩ (.bool b)).setCell ⟨w.heap.size + 1 + 1, 1, none⟩ v) := by
  refine ⟨⟨_, rfl, big_stored hz hs k4 k5⟩, ?_⟩
  refine Below.setCell (Below.setCell (h3.trans (hb.mono (by omega))) ?_ _) ?_ _
  · show w.heap.size ≤ w.heap.size + 1 + 1; omega
  · show w.heap.size ≤ w.heap.size + 1 + 1; omega

set_option maxHeartbeats 4000000 in
set_option maxRecDepth 100000 in
theorem radd_same (x y : Int) (a b : Option Addr) (c d : Nat) (w : World) (h : BigA w x a c) (h' : BigA w y b d) (hx : x.natAbs < 2 ^ 1000) (hy : y.natAbs < 2 ^ 1000) (sg : Bool) (sx : decide (x < 0) = sg) (sy : decide (y < 0) = sg) :
    Calls Tryz.prog 65 #[.agg #[.bool sg, .slice a (bitsN x.natAbs).length c], .agg #[.bool sg, .slice b (bitsN y.natAbs).length d]] w fun e w' => (∃ v, e = .returned v ∧ BigV w' v (x + y)) ∧ Below w.heap.size w w' := by
  have lx := bitsN_len 1000 _ hx
  have ly := bitsN_len 1000 _ hy
  have hBel : ∀ o1 o2 o3, Below w.heap.size w (((w.alloc o1).alloc o2).alloc o3) := fun o1 o2 o3 => Below.alloc (Below.alloc (Below.alloc (Below.refl _ w) (Nat.le_refl _) _) (by simp) _) (by simp; omega) _
  have HPl := Lib.hid (fun o1 o2 o3 => plus_any (bitsN x.natAbs) (bitsN y.natAbs) a b c d (((w.alloc o1).alloc o2).alloc o3).drew (h.1.keep (hBel o1 o2 o3).drew) (h'.1.keep (hBel o1 o2 o3).drew) (bits_of_bitsN _) (bits_of_bitsN _) (by omega) (by omega))
  have HBel := Lib.hid hBel
  have HSum : Hid ((x + y).natAbs = x.natAbs + y.natAbs ∧ decide (x + y < 0) = sg) := by
    apply Lib.hid
    cases sg
    · have := of_decide_eq_false sx; have := of_decide_eq_false sy
      exact ⟨by omega, decide_eq_false (by omega)⟩
    · have := of_decide_eq_true sx; have := of_decide_eq_true sy
      exact ⟨by omega, decide_eq_true (by omega)⟩
  generalize hn : (bitsN x.natAbs).length = n at *
  generalize hm : (bitsN y.natAbs).length = m at *
  have hss : (sg == sg) = true := by simp
  clear h h' sx sy hBel hn hm hx hy
  go_enter Tryz.func65, Tryz.ntmps65
  go_wp2
  go_region_with (go_at_call 63; refine (HPl.out _ _ _).mono ?_; rintro e w' ⟨v, out, rfl, ho, hb, hv, hbt, hcn, hl⟩; obtain ⟨k0, k1, k2, k3, k4, k5, k6, k7, k8⟩ := after3 hb; obtain ⟨va, vc, hve, _, _, _⟩ := ho.sl; subst hve; have HR := Lib.hid (And.intro ho (And.intro hb (And.intro hv (And.intro hbt (hcn (canon_bitsN _) (canon_bitsN _)))))); clear ho hb hv hbt hcn hl)
  all_goals go_wp2
  all_goals (
    obtain ⟨r1, r2, r3, r4, r5⟩ := HR.out
    rw [val_bitsN, val_bitsN, ← HSum.out.1] at r3
    have r6 : SL w' (.slice va out.length vc) (bitsN (x + y).natAbs) := by
      have := r1.sl
      rw [canon_of_val r4 r5 r3] at this ⊢
      exact this
    exact bodyPost_ret (v := .agg #[.bool sg, .slice va out.length vc]) (by simp [results, Tryz.results65, go_sem, k4, k5]) rfl (big_end3 (w3 := (((w.alloc _).alloc _).alloc _).drew) ((HBel.out _ _ _).drew) (by show _ ≤ (((w.alloc _).alloc _).alloc _).heap.size; simp) r2 r6 HSum.out.2.symm k4 k5))

end Go.Proofs.YtgeneoamngfomaaGreatDoor

namespace Go.Proofs.YtgeneoamngfomaaGreatDoor
open Go.RowKit
set_option linter.unusedVariables false

theorem drewN_below3 (w : World) (o1 o2 o3 : Obj) (q : Nat) : Below w.heap.size w ((((w.alloc o1).alloc o2).alloc o3).drewN q) :=
  (Below.alloc (Below.alloc (Below.alloc (Below.refl _ w) (Nat.le_refl _) _) (by simp) _) (by simp; omega) _).trans ((drewN_below' _ q).mono (by simp; omega))

theorem after3n {w w' : World} {s0 s1 t0 t1 u0 u1 : Value} {e1 e2 e3 : TypeId} {q : Nat} (hb : Below ((((w.alloc (.cells #[s0, s1] e1)).alloc (.cells #[t0, t1] e2)).alloc (.cells #[u0, u1] e3)).drewN q).heap.size ((((w.alloc (.cells #[s0, s1] e1)).alloc (.cells #[t0, t1] e2)).alloc (.cells #[u0, u1] e3)).drewN q) w') :
    w'.cell? ⟨w.heap.size, 0, none⟩ = some s0 ∧ w'.cell? ⟨w.heap.size, 1, none⟩ = some s1 ∧ w'.cell? ⟨w.heap.size + 1, 0, none⟩ = some t0 ∧ w'.cell? ⟨w.heap.size + 1, 1, none⟩ = some t1 ∧
    w'.cell? ⟨w.heap.size + 1 + 1, 0, none⟩ = some u0 ∧ w'.cell? ⟨w.heap.size + 1 + 1, 1, none⟩ = some u1 ∧ w'.frozen? ⟨w.heap.size + 1 + 1, 0, none⟩ = false ∧ w'.frozen? ⟨w.heap.size + 1 + 1, 1, none⟩ = false ∧ w.heap.size + 3 ≤ w'.heap.size :=
  after3 (w' := w') ⟨hb.os, hb.tape, hb.output, hb.size, hb.block⟩

set_option maxHeartbeats 4000000 in
set_option maxRecDepth 100000 in
theorem radd_less (x y : Int) (a b : Option Addr) (c d : Nat) (w : World) (h : BigA w x a c) (h' : BigA w y b d) (hx : x.natAbs < 2 ^ 1000) (hy : y.natAbs < 2 ^ 1000) (sg sg' : Bool) (sx : decide (x < 0) = sg) (sy : decide (y < 0) = sg') (hss : (sg == sg') = false) (hlt : x.natAbs < y.natAbs) :
    Calls Tryz.prog 65 #[.agg #[.bool sg, .slice a (bitsN x.natAbs).length c], .agg #[.bool sg', .slice b (bitsN y.natAbs).length d]] w fun e w' => (∃ v, e = .returned v ∧ BigV w' v (x + y)) ∧ Below w.heap.size w w' := by
  have lx := bitsN_len 1000 _ hx
  have ly := bitsN_len 1000 _ hy
  have HOr := Lib.hid (fun o1 o2 o3 => ord_any x.natAbs y.natAbs a b c d ((w.alloc o1).alloc o2 |>.alloc o3) (h.1.keep (drewN_below3 w o1 o2 o3 0)) (h'.1.keep (drewN_below3 w o1 o2 o3 0)) (by omega) (by omega))
  have HMi := Lib.hid (fun o1 o2 o3 q => minus_any (bitsN y.natAbs) (bitsN x.natAbs) b a d c ((((w.alloc o1).alloc o2).alloc o3).drewN q).drew (h'.1.keep (drewN_below3 w o1 o2 o3 q).drew) (h.1.keep (drewN_below3 w o1 o2 o3 q).drew) (bits_of_bitsN _) (bits_of_bitsN _) (by omega) (by omega) (by rw [val_bitsN, val_bitsN]; omega))
  have ho : ordZ x.natAbs y.natAbs = -1 := by unfold ordZ; rw [if_pos hlt]
  rw [ho] at HOr
  have HSum : Hid ((x + y).natAbs = y.natAbs - x.natAbs ∧ sg' = decide (x + y < 0)) := by
    apply Lib.hid
    cases sg <;> cases sg' <;> simp at hss
    · have := of_decide_eq_false sx; have := of_decide_eq_true sy
      exact ⟨by omega, (decide_eq_true (by omega)).symm⟩
    · have := of_decide_eq_true sx; have := of_decide_eq_false sy
      exact ⟨by omega, (decide_eq_false (by omega)).symm⟩
  generalize hn : (bitsN x.natAbs).length = n at *
  generalize hm : (bitsN y.natAbs).length = m at *
  clear h h' sx sy hn hm hx hy hlt ho
  go_enter Tryz.func65, Tryz.ntmps65
  go_wp2_with (go_at_call 62; refine (HOr.out _ _ _).mono ?_; rintro e w' ⟨rfl, q, rfl⟩)
  all_goals go_region_with (go_at_call 107; refine (HMi.out _ _ _ _).mono ?_; rintro e w' ⟨v, rfl, hs, hb⟩; obtain ⟨k0, k1, k2, k3, k4, k5, k6, k7, k8⟩ := after3n (q := q + 1) hb; obtain ⟨va, vc, hve, _, _, _⟩ := id hs; subst hve; have HR := Lib.hid (And.intro hs hb); clear hs hb)
  all_goals go_wp2
  all_goals (
    obtain ⟨r1, r2⟩ := HR.out
    have r6 := r1
    rw [val_bitsN, val_bitsN, ← HSum.out.1] at r6
    exact bodyPost_ret (v := .agg #[.bool sg', .slice va _ vc]) (by simp [results, Tryz.results65, go_sem, k4, k5]) rfl (big_end3 (w3 := ((((w.alloc _).alloc _).alloc _).drewN q).drew) ((drewN_below3 w _ _ _ q).drew) (by show _ ≤ (((w.alloc _).alloc _).alloc _).heap.size; simp) r2 (by first | exact r6 | (rw [val_bitsN, val_bitsN, ← HSum.out.1]; exact r6)) HSum.out.2 k4 k5))

set_option maxHeartbeats 4000000 in
set_option maxRecDepth 100000 in
theorem radd_more (x y : Int) (a b : Option Addr) (c d : Nat) (w : World) (h : BigA w x a c) (h' : BigA w y b d) (hx : x.natAbs < 2 ^ 1000) (hy : y.natAbs < 2 ^ 1000) (sg sg' : Bool) (sx : decide (x < 0) = sg) (sy : decide (y < 0) = sg') (hss : (sg == sg') = false) (hlt : ¬ x.natAbs < y.natAbs) :
    Calls Tryz.prog 65 #[.agg #[.bool sg, .slice a (bitsN x.natAbs).length c], .agg #[.bool sg', .slice b (bitsN y.natAbs).length d]] w fun e w' => (∃ v, e = .returned v ∧ BigV w' v (x + y)) ∧ Below w.heap.size w w' := by
  have lx := bitsN_len 1000 _ hx
  have ly := bitsN_len 1000 _ hy
  have HOr := Lib.hid (fun o1 o2 o3 => ord_any x.natAbs y.natAbs a b c d ((w.alloc o1).alloc o2 |>.alloc o3) (h.1.keep (drewN_below3 w o1 o2 o3 0)) (h'.1.keep (drewN_below3 w o1 o2 o3 0)) (by omega) (by omega))
  have HMi := Lib.hid (fun o1 o2 o3 q => minus_any (bitsN x.natAbs) (bitsN y.natAbs) a b c d ((((w.alloc o1).alloc o2).alloc o3).drewN q) (h.1.keep (drewN_below3 w o1 o2 o3 q)) (h'.1.keep (drewN_below3 w o1 o2 o3 q)) (bits_of_bitsN _) (bits_of_bitsN _) (by omega) (by omega) (by rw [val_bitsN, val_bitsN]; omega))
  obtain ⟨o, ho, o0⟩ : ∃ o, ordZ x.natAbs y.natAbs = o ∧ ¬ o < 0 := ⟨_, rfl, by unfold ordZ; rw [if_neg hlt]; split <;> omega⟩
  rw [ho] at HOr
  have hk : (x + y).natAbs = x.natAbs - y.natAbs := by
    cases sg <;> cases sg' <;> simp at hss
    · have := of_decide_eq_false sx; have := of_decide_eq_true sy; omega
    · have := of_decide_eq_true sx; have := of_decide_eq_false sy; omega
  have HK : Hid (val (bitsN x.natAbs) - val (bitsN y.natAbs) = (x + y).natAbs) := Lib.hid (by rw [val_bitsN, val_bitsN, hk])
  obtain ⟨L, hL⟩ : ∃ L, (bitsN (x + y).natAbs).length = L := ⟨_, rfl⟩
  have hpos := @bitsN_len_pos (x + y)
  rw [hL] at hpos
  have HL : Hid ((bitsN (val (bitsN x.natAbs) - val (bitsN y.natAbs))).length = L) := Lib.hid (by rw [HK.out, hL])
  generalize hn : (bitsN x.natAbs).length = n at *
  generalize hm : (bitsN y.natAbs).length = m at *
  cases sg
  · have HZ : Hid (false = decide (x + y < 0)) := by
      cases sg' <;> simp at hss
      have := of_decide_eq_false sx; have := of_decide_eq_true sy
      exact Lib.hid (decide_eq_false (by omega)).symm
    clear h h' sx sy hn hm hx hy hlt ho hk hL hpos
    go_enter Tryz.func65, Tryz.ntmps65
    go_wp2_with (first | (go_at_call 62; refine (HOr.out _ _ _).mono ?_; rintro e w' ⟨rfl, q, rfl⟩) | (go_at_call 107; refine (HMi.out _ _ _ _).mono ?_; rintro e w' ⟨v, rfl, hs, hb⟩; obtain ⟨k0, k1, k2, k3, k4, k5, k6, k7, k8⟩ := after3n hb; obtain ⟨va, vc, hve, _, _, _⟩ := id hs; rw [HL.out] at hve; subst hve; have HR := Lib.hid (And.intro hs hb); clear hs hb))
    obtain ⟨r1, r2⟩ := HR.out
    rw [HK.out] at r1
    exact bodyPost_ret (v := .agg #[.bool false, .slice va L vc]) (by simp [results, Tryz.results65, go_sem, k4, k5]) rfl (big_end3 (w3 := (((w.alloc _).alloc _).alloc _).drewN _) (drewN_below3 w _ _ _ _) (by show _ ≤ (((w.alloc _).alloc _).alloc _).heap.size; simp) r2 r1 HZ.out k4 k5)
  · cases sg' <;> simp at hss
    have hss : (true == false) = false := rfl
    by_cases hp : 0 < L
    · have HZ : Hid (true = decide (x + y < 0)) := by
        have := of_decide_eq_true sx; have := of_decide_eq_false sy; have := hpos.1 hp
        exact Lib.hid (decide_eq_true (by omega)).symm
      clear h h' sx sy hn hm hx hy hlt ho hk hL hpos
      go_enter Tryz.func65, Tryz.ntmps65
      go_wp2_with (first | (go_at_call 62; refine (HOr.out _ _ _).mono ?_; rintro e w' ⟨rfl, q, rfl⟩) | (go_at_call 107; refine (HMi.out _ _ _ _).mono ?_; rintro e w' ⟨v, rfl, hs, hb⟩; obtain ⟨k0, k1, k2, k3, k4, k5, k6, k7, k8⟩ := after3n hb; obtain ⟨va, vc, hve, _, _, _⟩ := id hs; rw [HL.out] at hve; subst hve; have HR := Lib.hid (And.intro hs hb); clear hs hb))
      obtain ⟨r1, r2⟩ := HR.out
      rw [HK.out] at r1
      exact bodyPost_ret (v := .agg #[.bool true, .slice va L vc]) (by simp [results, Tryz.results65, go_sem, k4, k5]) rfl (big_end3 (w3 := (((w.alloc _).alloc _).alloc _).drewN _) (drewN_below3 w _ _ _ _) (by show _ ≤ (((w.alloc _).alloc _).alloc _).heap.size; simp) r2 r1 HZ.out k4 k5)
    · have HZ : Hid (false = decide (x + y < 0)) := by
        have := of_decide_eq_true sx; have := of_decide_eq_false sy
        have : x + y = 0 := by
          by_cases g : x + y = 0
          · exact g
          · exact absurd (hpos.2 g) hp
        exact Lib.hid (decide_eq_false (by omega)).symm
      clear h h' sx sy hn hm hx hy hlt ho hk hL hpos
      go_enter Tryz.func65, Tryz.ntmps65
      go_wp2_with (first | (go_at_call 62; refine (HOr.out _ _ _).mono ?_; rintro e w' ⟨rfl, q, rfl⟩) | (go_at_call 107; refine (HMi.out _ _ _ _).mono ?_; rintro e w' ⟨v, rfl, hs, hb⟩; obtain ⟨k0, k1, k2, k3, k4, k5, k6, k7, k8⟩ := after3n hb; obtain ⟨va, vc, hve, _, _, _⟩ := id hs; rw [HL.out] at hve; subst hve; have HR := Lib.hid (And.intro hs hb); clear hs hb))
      obtain ⟨r1, r2⟩ := HR.out
      rw [HK.out] at r1
      exact bodyPost_ret (v := .agg #[.bool false, .slice va L vc]) (by simp [results, Tryz.results65, go_sem, k4, k5]) rfl (big_end3 (w3 := (((w.alloc _).alloc _).alloc _).drewN _) (drewN_below3 w _ _ _ _) (by show _ ≤ (((w.alloc _).alloc _).alloc _).heap.size; simp) r2 r1 HZ.out k4 k5)

theorem radd_any (x y : Int) (v v' : Value) (w : World) (h : BigV w v x) (h' : BigV w v' y) (hx : x.natAbs < 2 ^ 1000) (hy : y.natAbs < 2 ^ 1000) :
    Calls Tryz.prog 65 #[v, v'] w fun e w' => (∃ v, e = .returned v ∧ BigV w' v (x + y)) ∧ Below w.heap.size w w' := by
  obtain ⟨a, c, rfl, g⟩ := h.open
  obtain ⟨b, d, rfl, g'⟩ := h'.open
  cases hss : (decide (x < 0) == decide (y < 0))
  · by_cases hlt : x.natAbs < y.natAbs
    · exact radd_less x y a b c d w g g' hx hy _ _ rfl rfl hss hlt
    · exact radd_more x y a b c d w g g' hx hy _ _ rfl rfl hss hlt
  · have e := eq_of_beq hss
    rw [← e]
    exact radd_same x y a b c d w g g' hx hy _ rfl e.symm

end Go.Proofs.YtgeneoamngfomaaGreatDoor

namespace Go.Proofs.YtgeneoamngfomaaGreatDoor
open Go.RowKit
set_option linter.unusedVariables false

end Go.Proofs.YtgeneoamngfomaaGreatDoor

namespace Go.Proofs.YtgeneoamngfomaaGreatDoor
open Go.RowKit
set_option linter.unusedVariables false

end Go.Proofs.YtgeneoamngfomaaGreatDoor

namespace Go.Proofs.YtgeneoamngfomaaGreatDoor
open Go.RowKit

/-- The cells that Sum keeps its number in, and those of its result. -/
structure SumI (w wx : World) (z : Int) (sg : Bool) (a : Option Addr) (n c : Nat) : Prop where
  r0 : wx.cell? ⟨w.heap.size, 0, none⟩ = some (.bool false)
  r1 : wx.cell? ⟨w.heap.size, 1, none⟩ = some (.slice none 0 0)
  f0 : wx.frozen? ⟨w.heap.size, 0, none⟩ = false
  f1 : wx.frozen? ⟨w.heap.size, 1, none⟩ = false
  o0 : wx.cell? ⟨w.heap.size + 1, 0, none⟩ = some (.bool sg)
  o1 : wx.cell? ⟨w.heap.size + 1, 1, none⟩ = some (.slice a n c)
  g0 : wx.frozen? ⟨w.heap.size + 1, 0, none⟩ = false
  g1 : wx.frozen? ⟨w.heap.size + 1, 1, none⟩ = false
  big : BigV wx (.agg #[.bool sg, .slice a n c]) z
  bel : Below w.heap.size w wx
  sz : w.heap.size + 2 ≤ wx.heap.size
theorem SumI.keep {w wx w1 : World} {z : Int} {sg : Bool} {a : Option Addr} {n c : Nat} (h : SumI w wx z sg a n c) (hb : Below wx.heap.size wx w1) : SumI w w1 z sg a n c := by
  have hs := h.sz
  have hs1 := hb.size
  have hc : ∀ b i, b ≤ w.heap.size + 1 → w1.cell? ⟨b, i, none⟩ = wx.cell? ⟨b, i, none⟩ := fun b i hb' => hb.cell (p := ⟨b, i, none⟩) (show b < wx.heap.size by omega)
  have hf : ∀ b i, b ≤ w.heap.size + 1 → w1.frozen? ⟨b, i, none⟩ = wx.frozen? ⟨b, i, none⟩ := fun b i hb' => hb.frozen (p := ⟨b, i, none⟩) (show b < wx.heap.size by omega)
  exact ⟨(hc _ _ (by omega)).trans h.r0, (hc _ _ (by omega)).trans h.r1, (hf _ _ (by omega)).trans h.f0, (hf _ _ (by omega)).trans h.f1, (hc _ _ (by omega)).trans h.o0, (hc _ _ (by omega)).trans h.o1, (hf _ _ (by omega)).trans h.g0, (hf _ _ (by omega)).trans h.g1, h.big.keep hb, h.bel.trans (hb.mono (by omega)), by omega⟩
theorem SumI.store {w w1 : World} {z z' : Int} {sg sg' : Bool} {a a' : Option Addr} {n c n' c' : Nat} (h : SumI w w1 z sg a n c) (hb : BigV w1 (.agg #[.bool sg', .slice a' n' c']) z') :
    SumI w ((w1.setCell ⟨w.heap.size + 1, 0, none⟩ (.bool sg')).setCell ⟨w.heap.size + 1, 1, none⟩ (.slice a' n' c')) z' sg' a' n' c' := by
  have hs := h.sz
  obtain ⟨e1, e2⟩ := bigv_sign hb
  refine ⟨?_, ?_, ?_, ?_, ?_, ?_, ?_, ?_, big_stored e1 e2 h.o0 h.o1, Below.setCell (Below.setCell h.bel (show w.heap.size ≤ w.heap.size + 1 by omega) _) (show w.heap.size ≤ w.heap.size + 1 by omega) _, by simpa using hs⟩
  · rw [cell_other (by intro e; simp at e), cell_other (by intro e; simp at e)]; exact h.r0
  · rw [cell_other (by intro e; simp at e), cell_other (by intro e; simp at e)]; exact h.r1
  · simpa using h.f0
  · simpa using h.f1
  · rw [cell_other (by intro e; simp at e)]; exact cell_same h.o0
  · exact cell_same (u := .slice a n c) (by rw [cell_other (by intro e; simp at e)]; exact h.o1)
  · simpa using h.g0
  · simpa using h.g1

theorem sum_lim {l : List Int} (h : InI l) {k : Nat} (hk : k ≤ 1000) : (sumK l k).natAbs < 2 ^ 1000 := by
  have h1 := sumK_bd h k
  exact pow_big 1000 (by decide) (by omega)
theorem int_lim {n : Int} (b0 : -9223372036854775808 ≤ n) (b1 : n ≤ 9223372036854775807) : n.natAbs < 2 ^ 1000 := pow_big 1000 (by decide) (by omega)

set_option maxHeartbeats 4000000 in
set_option maxRecDepth 100000 in
theorem rsum_any (l : List Int) (p : Option Addr) (cap : Nat) (w : World) (h : SLF w p l) (hi : InI l) (hn : l.length ≤ 1000) :
    Calls Tryz.prog 45 #[.slice p l.length cap] w fun e w' => (∃ v, e = .returned v ∧ BigV w' v (sumL l)) ∧ Below w.heap.size w w' := by
  have HP := Lib.hid h
  have HI := Lib.hid hi
  obtain ⟨m, hm⟩ : ∃ m, m = l.length := ⟨_, rfl⟩
  have HM := Lib.hid hm
  rw [← hm] at hn ⊢
  clear h hi hm
  go_enter Tryz.func45, Tryz.ntmps45
  go_wp2
  go_loopw [4] (fun vi wx => ∃ (i : Nat) (sg : Bool) (a : Option Addr) (n c : Nat), vi = .int .i64 i ∧ i ≤ m ∧ SumI w wx (sumK l i) sg a n c) (fun vi _ => m - (intOf vi).toNat)
  case atStart =>
    refine ⟨0, false, none, 0, 0, rfl, by omega, ?_⟩
    have c0 : ∀ (w0 : World) (i : Nat) (v : Value), #[Value.bool false, Value.slice none 0 0][i]? = some v → (w0.alloc (.cells #[.bool false, .slice none 0 0] 88)).cell? ⟨w0.heap.size, i, none⟩ = some v := fun w0 i v hv => new_at hv
    have z1 : (w.alloc (.cells #[.bool false, .slice none 0 0] 88)).heap.size = w.heap.size + 1 := by simp
    have hq : Below w.heap.size w ((w.alloc (.cells #[.bool false, .slice none 0 0] 88)).alloc (.cells #[.bool false, .slice none 0 0] 88)) := Below.alloc (Below.alloc (Below.refl _ w) (Nat.le_refl _) _) (by simp) _
    refine ⟨?_, ?_, ?_, ?_, ?_, ?_, ?_, ?_, ?_, hq, by simp⟩
    · rw [World.cell?_alloc_past _ _ _ (by rw [z1]; show w.heap.size < w.heap.size + 1; omega)]; exact c0 w 0 _ rfl
    · rw [World.cell?_alloc_past _ _ _ (by rw [z1]; show w.heap.size < w.heap.size + 1; omega)]; exact c0 w 1 _ rfl
    · rw [World.frozen?_alloc_past _ _ _ (by rw [z1]; show w.heap.size < w.heap.size + 1; omega)]; exact World.frozen?_alloc_at _ _ _ _ rfl
    · rw [World.frozen?_alloc_past _ _ _ (by rw [z1]; show w.heap.size < w.heap.size + 1; omega)]; exact World.frozen?_alloc_at _ _ _ _ rfl
    · rw [← z1]; exact c0 _ 0 _ rfl
    · rw [← z1]; exact c0 _ 1 _ rfl
    · exact World.frozen?_alloc_at _ _ _ _ z1.symm
    · exact World.frozen?_alloc_at _ _ _ _ z1.symm
    · refine ⟨_, rfl, none, 0, ?_, ?_, by omega, Or.inl ?_⟩
      · show Value.slice none 0 0 = .slice none (bitsN (0 : Int).natAbs).length 0
        rw [show (0 : Int).natAbs = 0 from rfl, bitsN_zero]; rfl
      · show (bitsN (0 : Int).natAbs).length ≤ 0
        rw [show (0 : Int).natAbs = 0 from rfl, bitsN_zero]; exact Nat.le_refl _
      · show bitsN (0 : Int).natAbs = []
        rw [show (0 : Int).natAbs = 0 from rfl, bitsN_zero]
  case round =>
    obtain ⟨i, sg, a, n, c, rfl, him, hsi⟩ := hrel
    obtain ⟨r0, r1, f0, f1, o0, o1, g0, g1, hbig, hbel, hsz⟩ := id hsi
    have HSI := Lib.hid hsi
    by_cases hc : i < m
    · obtain ⟨bb, oo, hpa, hpb, hpr⟩ := (SLF.keep HP.out hbel).cell (t := i) (by have := HM.out; omega)
      obtain ⟨x, hx⟩ : ∃ x, x = l.getD i 0 := ⟨_, rfl⟩
      have hcx : wr.cell? ⟨bb, oo + i, none⟩ = some (.int .i64 x) := by rw [hx]; exact hpr i (by have := HM.out; omega)
      subst hpa
      have hxb : -9223372036854775808 ≤ x ∧ x ≤ 9223372036854775807 := by rw [hx]; exact HI.out i
      have HOf := Lib.hid (of_any x wr.drew hxb.1 hxb.2)
      have HXb := Lib.hid hxb
      have HX := Lib.hid hx
      have i1 : (i : Int) < (m : Int) := by omega
      have hlim := sum_lim HI.out (k := i) (by omega)
      have HLim := Lib.hid hlim
      clear hsi hbig hbel hxb hx hpr hpb hlim
      go_upto_region 5 with fail
      go_region_with (first | (go_at_call 33; refine HOf.out.mono ?_; rintro e w1 ⟨⟨v1, rfl, hv1⟩, hb1⟩; obtain ⟨a1, c1, hve, ga⟩ := id hv1.open; have hsi := HSI.out.keep (w1 := w1) ⟨hb1.os, hb1.tape, hb1.output, hb1.size, hb1.block⟩; obtain ⟨r0', r1', f0', f1', o0', o1', g0', g1', hbig', hbel', hsz'⟩ := id hsi; have HAdd := Lib.hid (radd_any (sumK l i) x _ _ w1 hbig' hv1 HLim.out (int_lim HXb.out.1 HXb.out.2)); have HSI1 := Lib.hid hsi; subst hve; clear hv1 hb1 hsi hbig' hbel' ga) | (go_at_call 65; refine HAdd.out.mono ?_; rintro e w2 ⟨⟨v2, rfl, hv2⟩, hb2⟩; obtain ⟨a2, c2, hve2, ga2⟩ := id hv2.open; obtain ⟨sg2, hsg2⟩ : ∃ sg2, sg2 = decide (sumK l i + x < 0) := ⟨_, rfl⟩; obtain ⟨n2, hn2⟩ : ∃ n2, n2 = (bitsN (sumK l i + x).natAbs).length := ⟨_, rfl⟩; rw [← hsg2, ← hn2] at hve2; subst hve2; have hsi2 := HSI1.out.keep hb2; obtain ⟨r0'', r1'', f0'', f1'', o0'', o1'', g0'', g1'', hbig'', hbel'', hsz''⟩ := id hsi2; have HSI2 := Lib.hid (hsi2.store hv2); clear hv2 hb2 hsi2 hbig'' hbel'' ga2 hsg2 hn2))
      all_goals go_wp2
      all_goals exact ⟨⟨i + 1, sg2, a2, n2, c2, by go_num, by omega, by have := HSI2.out; rw [HX.out] at this; exact this⟩, by simp [intOf]; omega⟩
    · have e : i = m := by omega
      have HE := Lib.hid e
      obtain ⟨e1, e2⟩ := bigv_sign hbig
      have HSg := Lib.hid e1
      have HSl := Lib.hid e2
      have HBel := Lib.hid hbel
      clear e hsi hbig hbel e1 e2
      go_wp2
      have hb := big_stored (r := w.heap.size) HSg.out HSl.out r0 r1
      exact bodyPost_ret (v := .agg #[.bool sg, .slice a n c]) (by simp [results, Tryz.results45, go_sem, r0, r1]) rfl ⟨⟨_, rfl, by unfold sumL; rw [← HM.out, ← HE.out]; exact hb⟩, Below.setCell (Below.setCell HBel.out (Nat.le_refl _) _) (Nat.le_refl _) _⟩

end Go.Proofs.YtgeneoamngfomaaGreatDoor

namespace Go.Proofs.YtgeneoamngfomaaGreatDoor
open Go.RowKit
set_option linter.unusedVariables false

end Go.Proofs.YtgeneoamngfomaaGreatDoor

namespace Go.Proofs.YtgeneoamngfomaaGreatDoor
open Go.RowKit
set_option linter.unusedVariables false

end Go.Proofs.YtgeneoamngfomaaGreatDoor

namespace Go.Proofs.YtgeneoamngfomaaGreatDoor
open Go.RowKit
set_option linter.unusedVariables false

end Go.Proofs.YtgeneoamngfomaaGreatDoor

namespace Go.Proofs.YtgeneoamngfomaaGreatDoor
open Go.RowKit
set_option linter.unusedVariables false

end Go.Proofs.YtgeneoamngfomaaGreatDoor

namespace Go.Proofs.YtgeneoamngfomaaGreatDoor
open Go.RowKit
set_option linter.unusedVariables false

end Go.Proofs.YtgeneoamngfomaaGreatDoor

namespace Go.Proofs.YtgeneoamngfomaaGreatDoor
open Go.RowKit
set_option linter.unusedVariables false

end Go.Proofs.YtgeneoamngfomaaGreatDoor

namespace Go.Proofs.YtgeneoamngfomaaGreatDoor
open Go.RowKit
set_option linter.unusedVariables false

end Go.Proofs.YtgeneoamngfomaaGreatDoor

namespace Go.Proofs.YtgeneoamngfomaaGreatDoor
open Go.RowKit Go.Lib
set_option linter.unusedVariables false

theorem bfF_asym {a b : Flw} (h : bfF a b) : ¬ bfF b a := fun h' => bfF_irr a (bfF_trans h h')
theorem putF_perm (l : List Flw) (x : Flw) : (putF l x).Perm (x :: l) := by
  unfold putF
  refine List.perm_middle.trans ?_
  rw [List.take_append_drop]
theorem putF_cons (a : Flw) (l : List Flw) (x : Flw) : putF (a :: l) x = if bfF x a then x :: a :: l else a :: putF l x := by
  unfold putF posF
  by_cases h : bfF x a
  · rw [if_pos h, List.takeWhile_cons_of_neg (by simp [h])]; rfl
  · rw [if_neg h, List.takeWhile_cons_of_pos (by simp [h])]; rfl
theorem putF_srt {l : List Flw} (x : Flw) (h : SrF l) : SrF (putF l x) := by
  induction l with
  | nil => exact List.pairwise_singleton _ _
  | cons a l ih =>
    obtain ⟨h1, h2⟩ := List.pairwise_cons.1 h
    rw [putF_cons]
    by_cases hx : bfF x a
    · rw [if_pos hx]
      refine List.pairwise_cons.2 ⟨fun b hb => ?_, h⟩
      rcases List.mem_cons.1 hb with rfl | hb
      · exact bfF_asym hx
      · intro hbx
        exact h1 b hb (bfF_trans hbx hx)
    · rw [if_neg hx]
      refine List.pairwise_cons.2 ⟨fun b hb => ?_, ih h2⟩
      rcases List.mem_cons.1 ((putF_perm l x).mem_iff.1 hb) with rfl | hb
      · exact hx
      · exact h1 b hb
end Go.Proofs.YtgeneoamngfomaaGreatDoor

namespace Go.Proofs.YtgeneoamngfomaaGreatDoor
open Go.RowKit Go.Lib
set_option linter.unusedVariables false

end Go.Proofs.YtgeneoamngfomaaGreatDoor

namespace Go.Proofs.YtgeneoamngfomaaGreatDoor
open Go.RowKit Go.Lib
set_option linter.unusedVariables false
set_option linter.unusedSimpArgs false

end Go.Proofs.YtgeneoamngfomaaGreatDoor

namespace Go.Proofs.YtgeneoamngfomaaGreatDoor
open Go.RowKit Go.Lib
set_option linter.unusedVariables false
set_option linter.unusedSimpArgs false

end Go.Proofs.YtgeneoamngfomaaGreatDoor

namespace Go.Proofs.YtgeneoamngfomaaGreatDoor
open Go.RowKit Go.Lib
set_option linter.unusedVariables false
set_option linter.unusedSimpArgs false

end Go.Proofs.YtgeneoamngfomaaGreatDoor

namespace Go.Proofs.YtgeneoamngfomaaGreatDoor
open Go.RowKit Go.Lib Go.Shelf Go.Maps
set_option linter.unusedVariables false
set_option linter.unusedSimpArgs false

end Go.Proofs.YtgeneoamngfomaaGreatDoor

namespace Go.Proofs.YtgeneoamngfomaaGreatDoor
open Go.RowKit Go.Lib Go.Shelf Go.Maps
set_option linter.unusedVariables false
set_option linter.unusedSimpArgs false

theorem pos_step : ∀ (l : List Flw) (x : Flw) (k : Nat), k ≤ posF l x → k < l.length → (bfF x (l.getD k default) → posF l x = k) ∧ (¬ bfF x (l.getD k default) → k + 1 ≤ posF l x)
  | [], x, k, _, h => absurd h (Nat.not_lt_zero _)
  | a :: l, x, k, h, hl => by
    by_cases c : bfF x a
    · have e : posF (a :: l) x = 0 := by
        unfold posF
        rw [List.takeWhile_cons_of_neg (by simp [c])]; rfl
      have : k = 0 := by omega
      subst this
      exact ⟨fun _ => e, fun n => absurd c n⟩
    · have e : posF (a :: l) x = posF l x + 1 := by
        unfold posF
        rw [List.takeWhile_cons_of_pos (by simp [c])]; rfl
      cases k with
      | zero => exact ⟨fun y => absurd y c, fun _ => by omega⟩
      | succ k =>
        have ih := pos_step l x k (by omega) (by simpa using hl)
        rw [e]
        exact ⟨fun y => by rw [ih.1 y], fun y => by have := ih.2 y; omega⟩
theorem pos_len (l : List Flw) (x : Flw) : posF l x ≤ l.length := (List.takeWhile_sublist _).length_le
set_option maxRecDepth 100000 in
theorem ahead_any (a x : Flw) (w : World) : Calls Tryz.prog 66 #[.agg #[.int .i64 a.d, .int .i64 a.c, .int .i64 a.n], .agg #[.int .i64 x.d, .int .i64 x.c, .int .i64 x.n]] w fun e w' => e = .returned (.bool (!decide (bfF x a))) ∧ Below w.heap.size w w' := by
  obtain ⟨ad, ac, an⟩ := a
  obtain ⟨xd, xc, xn⟩ := x
  dsimp only
  have HB := Lib.hid (onF (newF w (.cells #[.int .i64 ad, .int .i64 ac, .int .i64 an] 50)) (newF _ (.cells #[.int .i64 xd, .int .i64 xc, .int .i64 xn] 50)))
  have ka : ∀ k v, (#[.int .i64 ad, .int .i64 ac, .int .i64 an] : Array Value)[k]? = some v → ((w.alloc (.cells #[.int .i64 ad, .int .i64 ac, .int .i64 an] 50)).alloc (.cells #[.int .i64 xd, .int .i64 xc, .int .i64 xn] 50)).cell? ⟨w.heap.size, k, none⟩ = some v := fun k v hv => keepF (newF _ _) (by rw [World.cell?_alloc_at _ _ _ _ rfl]; exact hv)
  have kx : ∀ k v, (#[.int .i64 xd, .int .i64 xc, .int .i64 xn] : Array Value)[k]? = some v → ((w.alloc (.cells #[.int .i64 ad, .int .i64 ac, .int .i64 an] 50)).alloc (.cells #[.int .i64 xd, .int .i64 xc, .int .i64 xn] 50)).cell? ⟨w.heap.size + 1, k, none⟩ = some v := fun k v hv => by rw [World.cell?_alloc_at _ _ _ _ (by simp)]; exact hv
  have a0 := ka 0 _ rfl
  have a1 := ka 1 _ rfl
  have a2 := ka 2 _ rfl
  have x0 := kx 0 _ rfl
  have x1 := kx 1 _ rfl
  have x2 := kx 2 _ rfl
  clear ka kx
  obtain ⟨r, hr⟩ : ∃ r, r = (!decide (bfF ⟨xd, xc, xn⟩ ⟨ad, ac, an⟩)) := ⟨_, rfl⟩
  rw [← hr]
  by_cases h1 : ad = xd
  · by_cases h2 : ac = xc
    · have e : r = decide (an ≤ xn) := by
        rw [hr, ← decide_not]
        apply decide_eq_decide.2
        unfold bfF; dsimp only; omega
      clear hr
      subst h1 h2
      by_cases h3 : an ≤ xn
      · rw [decide_eq_true h3] at e
        subst e
        go_enter Tryz.func66, Tryz.ntmps66
        go_wp2_with fail
        go_ret
        exact ⟨rfl, HB.out⟩
      · rw [decide_eq_false h3] at e
        subst e
        go_enter Tryz.func66, Tryz.ntmps66
        go_wp2_with fail
        go_ret
        exact ⟨rfl, HB.out⟩
    · have e : r = decide (ac < xc) := by
        rw [hr, ← decide_not]
        apply decide_eq_decide.2
        unfold bfF; dsimp only; omega
      have h2' : (ac != xc) = true := bne_iff_ne.2 h2
      have h2'' : (ac == xc) = false := beq_false_of_ne h2
      clear hr
      subst h1
      by_cases h3 : ac < xc
      · rw [decide_eq_true h3] at e
        subst e
        go_enter Tryz.func66, Tryz.ntmps66
        go_wp2_with fail
        go_ret
        exact ⟨rfl, HB.out⟩
      · rw [decide_eq_false h3] at e
        subst e
        go_enter Tryz.func66, Tryz.ntmps66
        go_wp2_with fail
        go_ret
        exact ⟨rfl, HB.out⟩
  · have e : r = decide (ad < xd) := by
      rw [hr, ← decide_not]
      apply decide_eq_decide.2
      unfold bfF; dsimp only; omega
    have h1' : (ad != xd) = true := bne_iff_ne.2 h1
    have h1'' : (ad == xd) = false := beq_false_of_ne h1
    clear hr
    by_cases h3 : ad < xd
    · rw [decide_eq_true h3] at e
      subst e
      go_enter Tryz.func66, Tryz.ntmps66
      go_wp2_with fail
      go_ret
      exact ⟨rfl, HB.out⟩
    · rw [decide_eq_false h3] at e
      subst e
      go_enter Tryz.func66, Tryz.ntmps66
      go_wp2_with fail
      go_ret
      exact ⟨rfl, HB.out⟩

set_option maxRecDepth 100000 in
set_option maxHeartbeats 4000000 in
theorem put9_any (w : World) (l : List Flw) (hl : l.length ≤ 1000) (v : Value) (h : RowX flL 3 w v l) (x : Flw) :
    Calls Tryz.prog 34 #[v, .agg #[.int .i64 x.d, .int .i64 x.c, .int .i64 x.n]] w fun e w' => ∃ v', e = .returned v' ∧ OwnX flL 3 50 w' w.heap.size v' (putF l x) ∧ Below w.heap.size w w' := by
  obtain ⟨va, vc, rfl⟩ := h.slice
  have hb0 := newF w (.cells #[.int .i64 x.d, .int .i64 x.c, .int .i64 x.n] 50)
  have kx : ∀ k v, (#[.int .i64 x.d, .int .i64 x.c, .int .i64 x.n] : Array Value)[k]? = some v → (w.alloc (.cells #[.int .i64 x.d, .int .i64 x.c, .int .i64 x.n] 50)).cell? ⟨w.heap.size, k, none⟩ = some v := fun k v hv => by rw [World.cell?_alloc_at _ _ _ _ rfl]; exact hv
  have HK := Lib.hid (And.intro (kx 0 _ rfl) (And.intro (kx 1 _ rfl) (kx 2 _ rfl)))
  have HB0 := Lib.hid hb0
  have HS := Lib.hid (h.keep hb0)
  have HAh := Lib.hid (fun (a : Flw) (w' : World) => ahead_any a x w')
  have HPs := Lib.hid (pos_step l x)
  have HPl := Lib.hid (pos_len l x)
  have HPu : Hid (putF l x = l.take (posF l x) ++ x :: l.drop (posF l x)) := Lib.hid rfl
  have HLx : Hid (flL x = [.int .i64 x.d, .int .i64 x.c, .int .i64 x.n]) := Lib.hid rfl
  have HLe := Lib.hid hl
  clear hb0 kx h
  go_enter Tryz.func34, Tryz.ntmps34
  go_wp2_with fail
  generalize w.alloc (.cells #[.int .i64 x.d, .int .i64 x.c, .int .i64 x.n] 50) = w0 at *
  go_loopw [5] (fun vi wx => ∃ k : Nat, k ≤ l.length ∧ vi = .int .i64 (k : Nat) ∧ k ≤ posF l x ∧ Below w0.heap.size w0 wx) (fun vi _ => l.length - (RowKit.intOf vi).toNat)
  case atStart => exact ⟨0, Nat.zero_le _, rfl, Nat.zero_le _, Below.refl _ _⟩
  case round =>
    obtain ⟨k, hk, rfl, hp, hb⟩ := hrel
    have HB := Lib.hid hb
    have HP := Lib.hid hp
    have x0 := keepF hb HK.out.1
    have x1 := keepF hb HK.out.2.1
    have x2 := keepF hb HK.out.2.2
    by_cases hlt : k < l.length
    · have p0 : (0 : Int) ≤ (k : Int) := by omega
      have p1 : (k : Int) < (l.length : Int) := by omega
      have hd1 : decide ((k : Int) < (l.length : Int)) = true := decide_eq_true p1
      obtain ⟨g, o, cap, hv, hc1, hc2, hT⟩ : ∃ g o cap, Value.slice va l.length vc = .slice (some ⟨g, o, none⟩) l.length cap ∧ l.length ≤ cap ∧ cap ≤ 9223372036854775807 ∧ ∀ j, j < l.length → ∀ i c, i < 3 → (flL (l.getD j default))[i]? = some c → w0.cell? ⟨g, o + j * 3 + i, none⟩ = some c := by
        rcases HS.out with ⟨e, _⟩ | ⟨_, g, o, cap, h1, h2, h3, h4⟩
        · rw [e] at hlt; exact absurd hlt (Nat.not_lt_zero _)
        · exact ⟨g, o, cap, h1, h2, h3, h4⟩
      injection hv with hv1 _ hv3
      subst hv1 hv3
      have k0 : wr.cell? ⟨g, o + k * 3, none⟩ = some (.int .i64 (l.getD k default).d) := keepF hb (hT k hlt 0 _ (by omega) rfl)
      have k1 : wr.cell? ⟨g, o + k * 3 + 1, none⟩ = some (.int .i64 (l.getD k default).c) := keepF hb (hT k hlt 1 _ (by omega) rfl)
      have k2 : wr.cell? ⟨g, o + k * 3 + 2, none⟩ = some (.int .i64 (l.getD k default).n) := keepF hb (hT k hlt 2 _ (by omega) rfl)
      have HPk := Lib.hid (HPs.out k hp hlt)
      have HLt := Lib.hid hlt
      have hkl : k ≤ l.length := by omega
      have HRw := Lib.hid (fun (wx : World) (hb : Below w0.heap.size w0 wx) => And.intro (RowX.head (E := flL) (n := 3) hc1 hc2 (fun j hj i c hi he => keepF hb (hT j hj i c hi he)) hkl) (RowX.tail (E := flL) (n := 3) hc1 hc2 (fun j hj i c hi he => keepF hb (hT j hj i c hi he)) hkl))
      have HA := Lib.hid (HAh.out (l.getD k default))
      generalize l.getD k default = y at *
      have HBd : Hid (Below w0.heap.size w0 wr.drew) := Lib.hid (Below.drew hb)
      have HBy := Lib.hid (HA.out wr.drew)
      obtain ⟨r, hr⟩ : ∃ r, r = (!decide (bfF x y)) := ⟨_, rfl⟩
      rw [← hr] at HBy
      have HR := Lib.hid hr
      clear hlt hT hb hp hr
      have k0 : wr.drew.cell? ⟨g, o + k * 3, none⟩ = some (.int .i64 y.d) := k0
      have k1 : wr.drew.cell? ⟨g, o + k * 3 + 1, none⟩ = some (.int .i64 y.c) := k1
      have k2 : wr.drew.cell? ⟨g, o + k * 3 + 2, none⟩ = some (.int .i64 y.n) := k2
      have x0 : wr.drew.cell? ⟨w.heap.size, 0, none⟩ = some (.int .i64 x.d) := x0
      have x1 : wr.drew.cell? ⟨w.heap.size, 1, none⟩ = some (.int .i64 x.c) := x1
      have x2 : wr.drew.cell? ⟨w.heap.size, 2, none⟩ = some (.int .i64 x.n) := x2
      cases r with
      | true =>
        go_wp2_with fail
        go_region_held3 (fun w' => w'.cell? ⟨g, o + k * 3, none⟩ = some (.int .i64 y.d) ∧ w'.cell? ⟨g, o + k * 3 + 1, none⟩ = some (.int .i64 y.c) ∧ w'.cell? ⟨g, o + k * 3 + 2, none⟩ = some (.int .i64 y.n) ∧ w'.cell? ⟨w.heap.size, 0, none⟩ = some (.int .i64 x.d) ∧ w'.cell? ⟨w.heap.size, 1, none⟩ = some (.int .i64 x.c) ∧ w'.cell? ⟨w.heap.size, 2, none⟩ = some (.int .i64 x.n))
          (first | (with_reducible exact ⟨k0, k1, k2, x0, x1, x2⟩))
          ((go_at_call 66; refine (HBy.out).mono ?_; rintro e w4 ⟨rfl, hb4⟩; have HB4 := Lib.hid (HBd.out.trans (hb4.mono HBd.out.size)); have k0 := keepF hb4 k0; have k1 := keepF hb4 k1; have k2 := keepF hb4 k2; have x0 := keepF hb4 x0; have x1 := keepF hb4 x1; have x2 := keepF hb4 x2; clear hb4))
        go_wp2_with fail
        go_roundw
        case rel => exact ⟨k + 1, HLt.out, by go_num, HPk.out.2 (by have := HR.out; simpa using this.symm), HB4.out⟩
        case measure => have := HLt.out; simp [RowKit.intOf]; omega
      | false =>
        have HEk : Hid (posF l x = k) := Lib.hid (HPk.out.1 (by have := HR.out; simpa using this.symm))
        go_wp2_with fail
        go_region_held3 (fun w' => w'.cell? ⟨g, o + k * 3, none⟩ = some (.int .i64 y.d) ∧ w'.cell? ⟨g, o + k * 3 + 1, none⟩ = some (.int .i64 y.c) ∧ w'.cell? ⟨g, o + k * 3 + 2, none⟩ = some (.int .i64 y.n) ∧ w'.cell? ⟨w.heap.size, 0, none⟩ = some (.int .i64 x.d) ∧ w'.cell? ⟨w.heap.size, 1, none⟩ = some (.int .i64 x.c) ∧ w'.cell? ⟨w.heap.size, 2, none⟩ = some (.int .i64 x.n))
          (first | (with_reducible exact ⟨k0, k1, k2, x0, x1, x2⟩))
          ((go_at_call 66; refine (HBy.out).mono ?_; rintro e w4 ⟨rfl, hb4⟩; have HB4 := Lib.hid (HBd.out.trans (hb4.mono HBd.out.size)); have k0 := keepF hb4 k0; have k1 := keepF hb4 k1; have k2 := keepF hb4 k2; have x0 := keepF hb4 x0; have x1 := keepF hb4 x1; have x2 := keepF hb4 x2; clear hb4))
        have HH := Lib.hid (HRw.out w4 HB4.out)
        go_wp2_with (at_builtin; first | (refine wpList_append_x (E := flL) (k := 3) (fun _ => rfl) (by decide) flL_one Tryz.underlying30 infoFl rfl (by decide) rfl _ _ rfl w0.heap.size _ [] rfl (OwnX.nil _ _ _ _ _) _ (l.take k) rfl HH.out.1 (by have := HLe.out; simp <;> omega) HB4.out.size ?_; intro v5 w5 ho5 hg5 hat5; rw [List.nil_append] at ho5; have HO5 := Lib.hid ho5; have HB5 : Hid (Below w0.heap.size w0 w5) := Lib.hid (Below.grown HB4.out hg5 HB4.out.size (fun k hk => by cases hk)); have x0 := keepF HB5.out HK.out.1; have x1 := keepF HB5.out HK.out.2.1; have x2 := keepF HB5.out HK.out.2.2; obtain ⟨sb, sn, sd, hsn, rfl⟩ : ∃ a n c, n = (l.take k).length ∧ v5 = Value.slice a n c := (by obtain ⟨a, c, h⟩ := ho5.slice; exact ⟨a, _, c, rfl, h⟩); clear hsn; clear ho5 hg5 hat5) | (refine wpList_append_x (E := flL) (k := 3) (fun _ => rfl) (by decide) flL_one Tryz.underlying30 infoFl rfl (by decide) rfl _ _ rfl w0.heap.size _ (l.take k) rfl (HO5.out.grown (newF w5 _)) _ [x] rfl (rowx_new (E := flL) (k := 3) (fun _ => rfl) w5 x #[.int .i64 x.d, .int .i64 x.c, .int .i64 x.n] (by rfl) 50 _ rfl) (by have := HLe.out; simp <;> omega) (Nat.le_trans HB5.out.size (by simp)) ?_; intro v6 w6 ho6 hg6 hat6; have HO6 := Lib.hid ho6; have HB6 : Hid (Below w0.heap.size w0 w6) := Lib.hid (Below.grown (Below.alloc HB5.out HB5.out.size _) hg6 (Nat.le_trans HB5.out.size (by simp)) (fun k hk => (HO5.out.lt k hk).1)); have HH6 := Lib.hid (HRw.out w6 HB6.out); obtain ⟨tb, tn, td, htn, rfl⟩ : ∃ a n c, n = (l.take k ++ [x]).length ∧ v6 = Value.slice a n c := (by obtain ⟨a, c, h⟩ := ho6.slice; exact ⟨a, _, c, rfl, h⟩); clear htn; clear ho6 hg6 hat6) | (refine wpList_append_x (E := flL) (k := 3) (fun _ => rfl) (by decide) flL_one Tryz.underlying30 infoFl rfl (by decide) rfl _ _ rfl w0.heap.size _ (l.take k ++ [x]) rfl HO6.out _ (l.drop k) rfl HH6.out.2 (by have := HLe.out; simp <;> omega) HB6.out.size ?_; intro v7 w7 ho7 hg7 hat7; have HO7 := Lib.hid ho7; have HB7 : Hid (Below w0.heap.size w0 w7) := Lib.hid (Below.grown HB6.out hg7 HB6.out.size (fun k hk => (HO6.out.lt k hk).1)); clear ho7 hg7 hat7))
        go_ret
        exact ⟨_, rfl, by rw [HPu.out, HEk.out]; have := HO7.out.base HB0.out.size; rw [List.append_assoc] at this; exact this, onF HB0.out HB7.out⟩
    · have hke : k = l.length := by omega
      subst hke
      have p1 : ¬ (l.length : Int) < (l.length : Int) := by omega
      have hd1 : decide ((l.length : Int) < (l.length : Int)) = false := decide_eq_false p1
      have HEk : Hid (posF l x = l.length) := Lib.hid (Nat.le_antisymm HPl.out hp)
      have HBn := Lib.hid (fun q => hb.trans ((below_drewE wr q).mono hb.size))
      rcases HS.out with ⟨hnil, a, c, hv⟩ | ⟨h0, g, o, cap, hv, hc1, hc2, hT⟩
      · subst hnil
        injection hv with hv1 _ hv3
        subst hv1 hv3
        have HRw : Hid (∀ wx, Below w0.heap.size w0 wx → RowX flL 3 wx (.slice va 0 vc) (([] : List Flw).take 0) ∧ RowX flL 3 wx (.slice va 0 vc) (([] : List Flw).drop 0)) := Lib.hid (fun wx _ => ⟨.inl ⟨rfl, _, _, rfl⟩, .inl ⟨rfl, _, _, rfl⟩⟩)
        have HEk : Hid (posF ([] : List Flw) x = 0) := HEk
        clear hb hp hlt hk x0 x1 x2
        simp only [List.length_nil] at *
        go_wp2_with fail
        go_quiet (fail)
        have HB4 : Hid (Below w0.heap.size w0 (wr.drewN nq)) := Lib.hid (HBn.out nq)
        generalize wr.drewN nq = w4 at *
        go_wp2_with (at_builtin; first | (refine wpList_append_x (E := flL) (k := 3) (fun _ => rfl) (by decide) flL_one Tryz.underlying30 infoFl rfl (by decide) rfl _ _ rfl w0.heap.size _ [] rfl (OwnX.nil _ _ _ _ _) _ ([] : List Flw) rfl (.inl ⟨rfl, _, _, rfl⟩) (by have := HLe.out; simp <;> omega) HB4.out.size ?_; intro v5 w5 ho5 hg5 hat5; rw [List.nil_append] at ho5; have HO5 := Lib.hid ho5; have HB5 : Hid (Below w0.heap.size w0 w5) := Lib.hid (Below.grown HB4.out hg5 HB4.out.size (fun k hk => by cases hk)); have x0 := keepF HB5.out HK.out.1; have x1 := keepF HB5.out HK.out.2.1; have x2 := keepF HB5.out HK.out.2.2; obtain ⟨sb, sn, sd, hsn, rfl⟩ : ∃ a n c, n = (([] : List Flw)).length ∧ v5 = Value.slice a n c := (by obtain ⟨a, c, h⟩ := ho5.slice; exact ⟨a, _, c, rfl, h⟩); clear hsn; clear ho5 hg5 hat5) | (refine wpList_append_x (E := flL) (k := 3) (fun _ => rfl) (by decide) flL_one Tryz.underlying30 infoFl rfl (by decide) rfl _ _ rfl w0.heap.size _ (([] : List Flw)) rfl (HO5.out.grown (newF w5 _)) _ [x] rfl (rowx_new (E := flL) (k := 3) (fun _ => rfl) w5 x #[.int .i64 x.d, .int .i64 x.c, .int .i64 x.n] (by rfl) 50 _ rfl) (by have := HLe.out; simp <;> omega) (Nat.le_trans HB5.out.size (by simp)) ?_; intro v6 w6 ho6 hg6 hat6; have HO6 := Lib.hid ho6; have HB6 : Hid (Below w0.heap.size w0 w6) := Lib.hid (Below.grown (Below.alloc HB5.out HB5.out.size _) hg6 (Nat.le_trans HB5.out.size (by simp)) (fun k hk => (HO5.out.lt k hk).1)); obtain ⟨tb, tn, td, htn, rfl⟩ : ∃ a n c, n = (([] : List Flw) ++ [x]).length ∧ v6 = Value.slice a n c := (by obtain ⟨a, c, h⟩ := ho6.slice; exact ⟨a, _, c, rfl, h⟩); clear htn; clear ho6 hg6 hat6) | (refine wpList_append_x (E := flL) (k := 3) (fun _ => rfl) (by decide) flL_one Tryz.underlying30 infoFl rfl (by decide) rfl _ _ rfl w0.heap.size _ (([] : List Flw) ++ [x]) rfl HO6.out _ ([] : List Flw) rfl (.inl ⟨rfl, _, _, rfl⟩) (by have := HLe.out; simp <;> omega) HB6.out.size ?_; intro v7 w7 ho7 hg7 hat7; have HO7 := Lib.hid ho7; have HB7 : Hid (Below w0.heap.size w0 w7) := Lib.hid (Below.grown HB6.out hg7 HB6.out.size (fun k hk => (HO6.out.lt k hk).1)); clear ho7 hg7 hat7))
        all_goals
          go_ret
          exact ⟨_, rfl, by rw [HPu.out, HEk.out]; have := HO7.out.base HB0.out.size; rw [List.append_assoc] at this; exact this, onF HB0.out HB7.out⟩
      · injection hv with hv1 _ hv3
        subst hv1 hv3
        have hkl : l.length ≤ l.length := Nat.le_refl _
        have HRw := Lib.hid (fun (wx : World) (hb : Below w0.heap.size w0 wx) => And.intro (RowX.head (E := flL) (n := 3) hc1 hc2 (fun j hj i c hi he => keepF hb (hT j hj i c hi he)) hkl) (RowX.tail (E := flL) (n := 3) hc1 hc2 (fun j hj i c hi he => keepF hb (hT j hj i c hi he)) hkl))
        clear hb hp hlt hk x0 x1 x2 hT hkl
        go_wp2_with fail
        go_quiet (fail)
        have HB4 : Hid (Below w0.heap.size w0 (wr.drewN nq)) := Lib.hid (HBn.out nq)
        generalize wr.drewN nq = w4 at *
        have HH := Lib.hid (HRw.out w4 HB4.out)
        go_wp2_with (at_builtin; first | (refine wpList_append_x (E := flL) (k := 3) (fun _ => rfl) (by decide) flL_one Tryz.underlying30 infoFl rfl (by decide) rfl _ _ rfl w0.heap.size _ [] rfl (OwnX.nil _ _ _ _ _) _ (l.take l.length) rfl HH.out.1 (by have := HLe.out; simp <;> omega) HB4.out.size ?_; intro v5 w5 ho5 hg5 hat5; rw [List.nil_append] at ho5; have HO5 := Lib.hid ho5; have HB5 : Hid (Below w0.heap.size w0 w5) := Lib.hid (Below.grown HB4.out hg5 HB4.out.size (fun k hk => by cases hk)); have x0 := keepF HB5.out HK.out.1; have x1 := keepF HB5.out HK.out.2.1; have x2 := keepF HB5.out HK.out.2.2; obtain ⟨sb, sn, sd, hsn, rfl⟩ : ∃ a n c, n = (l.take l.length).length ∧ v5 = Value.slice a n c := (by obtain ⟨a, c, h⟩ := ho5.slice; exact ⟨a, _, c, rfl, h⟩); clear hsn; clear ho5 hg5 hat5) | (refine wpList_append_x (E := flL) (k := 3) (fun _ => rfl) (by decide) flL_one Tryz.underlying30 infoFl rfl (by decide) rfl _ _ rfl w0.heap.size _ (l.take l.length) rfl (HO5.out.grown (newF w5 _)) _ [x] rfl (rowx_new (E := flL) (k := 3) (fun _ => rfl) w5 x #[.int .i64 x.d, .int .i64 x.c, .int .i64 x.n] (by rfl) 50 _ rfl) (by have := HLe.out; simp <;> omega) (Nat.le_trans HB5.out.size (by simp)) ?_; intro v6 w6 ho6 hg6 hat6; have HO6 := Lib.hid ho6; have HB6 : Hid (Below w0.heap.size w0 w6) := Lib.hid (Below.grown (Below.alloc HB5.out HB5.out.size _) hg6 (Nat.le_trans HB5.out.size (by simp)) (fun k hk => (HO5.out.lt k hk).1)); have HH6 := Lib.hid (HRw.out w6 HB6.out); obtain ⟨tb, tn, td, htn, rfl⟩ : ∃ a n c, n = (l.take l.length ++ [x]).length ∧ v6 = Value.slice a n c := (by obtain ⟨a, c, h⟩ := ho6.slice; exact ⟨a, _, c, rfl, h⟩); clear htn; clear ho6 hg6 hat6) | (refine wpList_append_x (E := flL) (k := 3) (fun _ => rfl) (by decide) flL_one Tryz.underlying30 infoFl rfl (by decide) rfl _ _ rfl w0.heap.size _ (l.take l.length ++ [x]) rfl HO6.out _ (l.drop l.length) rfl (by first | exact HH6.out.2 | (rw [List.drop_length]; exact .inl ⟨rfl, _, _, rfl⟩)) (by have := HLe.out; simp <;> omega) HB6.out.size ?_; intro v7 w7 ho7 hg7 hat7; have HO7 := Lib.hid ho7; have HB7 : Hid (Below w0.heap.size w0 w7) := Lib.hid (Below.grown HB6.out hg7 HB6.out.size (fun k hk => (HO6.out.lt k hk).1)); clear ho7 hg7 hat7))
        all_goals
          go_ret
          exact ⟨_, rfl, by rw [HPu.out, HEk.out]; have := HO7.out.base HB0.out.size; rw [List.append_assoc] at this; exact this, onF HB0.out HB7.out⟩

end Go.Proofs.YtgeneoamngfomaaGreatDoor

namespace Go.Proofs.YtgeneoamngfomaaGreatDoor
open Go.RowKit Go.Lib Go.Shelf Go.Maps
set_option linter.unusedVariables false
set_option linter.unusedSimpArgs false

end Go.Proofs.YtgeneoamngfomaaGreatDoor

namespace Go.Proofs.YtgeneoamngfomaaGreatDoor
open Go.RowKit Go.Lib
set_option linter.unusedVariables false
set_option linter.unusedSimpArgs false

theorem sumK_ap1 (l : List Int) (x : Int) : ∀ k, k ≤ l.length → sumK (l ++ [x]) k = sumK l k
  | 0, _ => rfl
  | k + 1, h => by
    rw [sumK, sumK, sumK_ap1 l x k (by omega), List.getD_eq_getElem?_getD, List.getElem?_append_left (by omega), ← List.getD_eq_getElem?_getD]
theorem sumL_app1 (l : List Int) (x : Int) : sumL (l ++ [x]) = sumL l + x := by
  unfold sumL
  rw [List.length_append]
  show sumK (l ++ [x]) l.length + (l ++ [x]).getD l.length 0 = _
  rw [sumK_ap1 l x _ (Nat.le_refl _), List.getD_eq_getElem?_getD, List.getElem?_append_right (Nat.le_refl _)]
  simp
theorem sumL_eq (l : List Int) : sumL l = l.sum := by
  have key : ∀ (m l : List Int), sumL l = l.sum → sumL (l ++ m) = l.sum + m.sum := by
    intro m
    induction m with
    | nil => intro l h; simp [h]
    | cons x m ih =>
      intro l h
      have e : l ++ x :: m = (l ++ [x]) ++ m := by simp
      rw [e, ih (l ++ [x]) (by rw [sumL_app1, h]; simp)]
      simp; omega
  have := key l [] rfl
  simpa using this
theorem sum_perm {l m : List Int} (h : l.Perm m) : l.sum = m.sum := by
  induction h with
  | nil => rfl
  | cons x _ ih => simp [ih]
  | swap x y l => simp; omega
  | trans _ _ h1 h2 => exact h1.trans h2
/-- Amounts of a day and a currency; their sum. -/
def amsF (l : List Flw) (d c : Int) : List Int := (l.filter fun x => decide (x.d = d ∧ x.c = c)).map (·.n)
def smDC (l : List Flw) (d c : Int) : Int := sumL (amsF l d c)
def FitsA (l : List Flw) : Prop := ∀ d c, inR (smDC l d c) = true
theorem amsF_perm {l m : List Flw} (h : l.Perm m) (d c : Int) : (amsF l d c).Perm (amsF m d c) := (h.filter _).map _
theorem smDC_perm {l m : List Flw} (h : l.Perm m) (d c : Int) : smDC l d c = smDC m d c := by
  unfold smDC
  rw [sumL_eq, sumL_eq]
  exact sum_perm (amsF_perm h d c)
theorem fitsA_perm {l m : List Flw} (h : l.Perm m) : FitsA l ↔ FitsA m := ⟨fun h1 d c => by rw [← smDC_perm h]; exact h1 d c, fun h1 d c => by rw [smDC_perm h]; exact h1 d c⟩
theorem amsF_none {l : List Flw} {d c : Int} (h : ∀ x ∈ l, ¬ (x.d = d ∧ x.c = c)) : amsF l d c = [] := by
  unfold amsF
  rw [List.filter_eq_nil_iff.2 (fun x hx => by simpa using h x hx)]
  rfl
theorem smDC_none {l : List Flw} {d c : Int} (h : ∀ x ∈ l, ¬ (x.d = d ∧ x.c = c)) : smDC l d c = 0 := by
  unfold smDC; rw [amsF_none h]; rfl
theorem amsF_snoc (l : List Flw) (x : Flw) (d c : Int) : amsF (l ++ [x]) d c = if x.d = d ∧ x.c = c then amsF l d c ++ [x.n] else amsF l d c := by
  unfold amsF
  rw [List.filter_append, List.map_append]
  by_cases h : x.d = d ∧ x.c = c
  · rw [if_pos h]
    simp [h.1, h.2]
  · rw [if_neg h]
    have : List.filter (fun x => decide (x.d = d ∧ x.c = c)) [x] = [] := List.filter_eq_nil_iff.2 (fun y hy => by rw [List.mem_singleton.1 hy]; simpa using h)
    rw [this]; simp
theorem fit0 : inR 0 = true := by decide
/-- What the sums are, in order. -/
structure NetS (l m : List Flw) : Prop where
  srt : SrF m
  nd : m.Nodup
  mem : ∀ x, x ∈ m ↔ x.n ≠ 0 ∧ x.n = smDC l x.d x.c
theorem perm_of_mem {a b : List Flw} (ha : a.Nodup) (hb : b.Nodup) (h : ∀ x, x ∈ a ↔ x ∈ b) : a.Perm b := by
  rw [List.perm_iff_count]
  intro x
  rw [ha.count, hb.count]
  by_cases c : x ∈ a
  · rw [if_pos c, if_pos ((h x).1 c)]
  · rw [if_neg c, if_neg (fun k => c ((h x).2 k))]
theorem NetS.uniq {l l' a b : List Flw} (ha : NetS l a) (hb : NetS l' b) (h : ∀ d c, smDC l d c = smDC l' d c) : a = b :=
  srF_uniq ha.srt hb.srt (perm_of_mem ha.nd hb.nd fun x => by rw [ha.mem, hb.mem, h])
theorem nodup_le1 {l : List Flw} (hn : l.Nodup) {y : Flw} (h : ∀ x ∈ l, x = y) : l = [] ∨ l = [y] := by
  match l, hn, h with
  | [], _, _ => exact .inl rfl
  | [a], _, h => exact .inr (by rw [h a (by simp)])
  | a :: b :: r, hn, h =>
    have e1 := h a (by simp)
    have e2 := h b (by simp)
    rw [List.nodup_cons] at hn
    exact absurd (by rw [e1, e2]; simp) hn.1
theorem NetS.sums {l m : List Flw} (h : NetS l m) (d c : Int) : smDC m d c = smDC l d c := by
  have h1 : ∀ x ∈ m.filter (fun x => decide (x.d = d ∧ x.c = c)), x = ⟨d, c, smDC l d c⟩ := fun x hx => by
    obtain ⟨hx1, hx2⟩ := List.mem_filter.1 hx
    obtain ⟨e1, e2⟩ := of_decide_eq_true hx2
    have := ((h.mem x).1 hx1).2
    exact flw_ext e1 e2 (by rw [this, e1, e2])
  have h2 := nodup_le1 (h.nd.filter _) h1
  by_cases c0 : smDC l d c = 0
  · rcases h2 with h2 | h2
    · unfold smDC amsF at *; rw [h2, c0]; rfl
    · have : (⟨d, c, smDC l d c⟩ : Flw) ∈ m := (List.mem_filter.1 (by rw [h2]; simp)).1
      exact absurd c0 ((h.mem _).1 this).1
  · have hm : (⟨d, c, smDC l d c⟩ : Flw) ∈ m := (h.mem _).2 ⟨c0, rfl⟩
    have hf : (⟨d, c, smDC l d c⟩ : Flw) ∈ m.filter (fun x => decide (x.d = d ∧ x.c = c)) := List.mem_filter.2 ⟨hm, by simp⟩
    rcases h2 with h2 | h2
    · rw [h2] at hf; cases hf
    · show sumL ((m.filter (fun x => decide (x.d = d ∧ x.c = c))).map (·.n)) = _
      rw [h2]
      show 0 + smDC l d c = smDC l d c
      omega
theorem NetS.self {l m : List Flw} (h : NetS l m) : NetS m m := ⟨h.srt, h.nd, fun x => by rw [h.sums]; exact h.mem x⟩
theorem NetS.fits {l m : List Flw} (h : NetS l m) (hf : FitsA l) : FitsA m := fun d c => by rw [h.sums]; exact hf d c
/-- The sums by keys, in any order. -/
def netK (l : List Flw) (ps : List (Int × Int)) : List Flw := ps.flatMap fun p => if smDC l p.1 p.2 = 0 then [] else [⟨p.1, p.2, smDC l p.1 p.2⟩]
theorem netK_mem {l : List Flw} {ps : List (Int × Int)} (x : Flw) : x ∈ netK l ps ↔ (x.d, x.c) ∈ ps ∧ x.n ≠ 0 ∧ x.n = smDC l x.d x.c := by
  unfold netK
  rw [List.mem_flatMap]
  constructor
  · rintro ⟨p, hp, hx⟩
    by_cases c : smDC l p.1 p.2 = 0
    · rw [if_pos c] at hx; cases hx
    · rw [if_neg c] at hx
      rw [List.mem_singleton.1 hx]
      exact ⟨hp, c, rfl⟩
  · rintro ⟨h1, h2, h3⟩
    refine ⟨_, h1, ?_⟩
    dsimp only
    rw [if_neg (by rw [← h3]; exact h2), List.mem_singleton]
    exact flw_ext rfl rfl h3
theorem netK_snoc (l : List Flw) (ps : List (Int × Int)) (p : Int × Int) : netK l (ps ++ [p]) = if smDC l p.1 p.2 = 0 then netK l ps else netK l ps ++ [⟨p.1, p.2, smDC l p.1 p.2⟩] := by
  unfold netK
  rw [List.flatMap_append]
  by_cases c : smDC l p.1 p.2 = 0
  · rw [if_pos c]; simp [c]
  · rw [if_neg c]; simp [c]
theorem netK_len (l : List Flw) (ps : List (Int × Int)) : (netK l ps).length ≤ ps.length := by
  unfold netK
  induction ps with
  | nil => simp
  | cons p ps ih =>
    rw [List.flatMap_cons, List.length_append, List.length_cons]
    by_cases c : smDC l p.1 p.2 = 0
    · rw [if_pos c]; show 0 + _ ≤ _; omega
    · rw [if_neg c]; show 1 + _ ≤ _; omega
theorem netK_nd {l : List Flw} : ∀ {ps : List (Int × Int)}, ps.Nodup → (netK l ps).Nodup
  | [], _ => List.nodup_nil
  | p :: ps, h => by
    obtain ⟨h1, h2⟩ := List.nodup_cons.1 h
    have ih := netK_nd (l := l) h2
    show ((if smDC l p.1 p.2 = 0 then [] else [(⟨p.1, p.2, smDC l p.1 p.2⟩ : Flw)]) ++ netK l ps).Nodup
    by_cases c : smDC l p.1 p.2 = 0
    · rw [if_pos c]; exact ih
    · rw [if_neg c]
      refine List.nodup_cons.2 ⟨fun hx => ?_, ih⟩
      exact h1 ((netK_mem _).1 hx).1
theorem net_of {l : List Flw} {ps : List (Int × Int)} (hn : ps.Nodup) (ha : ∀ x ∈ l, (x.d, x.c) ∈ ps) {m : List Flw} (hm : m.Perm (netK l ps)) (hs : SrF m) : NetS l m :=
  ⟨hs, hm.nodup_iff.2 (netK_nd hn), fun x => by
    rw [hm.mem_iff, netK_mem]
    refine ⟨fun h => h.2, fun h => ⟨?_, h⟩⟩
    by_cases c : ∃ y ∈ l, y.d = x.d ∧ y.c = x.c
    · obtain ⟨y, hy, e1, e2⟩ := c
      have := ha y hy
      rw [e1, e2] at this
      exact this
    · have := smDC_none (l := l) (d := x.d) (c := x.c) (fun y hy k => c ⟨y, hy, k⟩)
      rw [this] at h
      exact absurd h.2 h.1⟩
/-- The sums as the document's answer puts them: one for each flow that is the first one of its kind. -/
def fstF (l : List Flw) (i : Nat) : Bool := (l.take i).all fun y => !decide (y.d = (l.getD i default).d ∧ y.c = (l.getD i default).c)
def netR (l : List Flw) : Nat → List Flw
  | 0 => []
  | i + 1 => if fstF l i = true ∧ smDC l (l.getD i default).d (l.getD i default).c ≠ 0 then putF (netR l i) ⟨(l.getD i default).d, (l.getD i default).c, smDC l (l.getD i default).d (l.getD i default).c⟩ else netR l i
theorem netR_len (l : List Flw) : ∀ i, (netR l i).length ≤ i
  | 0 => Nat.le_refl _
  | i + 1 => by
    rw [netR]
    have := netR_len l i
    split
    · rw [(putF_perm _ _).length_eq, List.length_cons]; omega
    · omega
theorem netR_ok (l : List Flw) : ∀ i, i ≤ l.length → SrF (netR l i) ∧ (netR l i).Nodup ∧ ∀ x, x ∈ netR l i ↔ (x.n ≠ 0 ∧ x.n = smDC l x.d x.c) ∧ ∃ j, j < i ∧ (l.getD j default).d = x.d ∧ (l.getD j default).c = x.c
  | 0, _ => ⟨List.Pairwise.nil, List.nodup_nil, fun x => ⟨fun h => (by cases h), fun ⟨_, j, hj, _⟩ => absurd hj (Nat.not_lt_zero j)⟩⟩
  | i + 1, hi => by
    obtain ⟨h1, h2, h3⟩ := netR_ok l i (by omega)
    have hone : fstF l i = true ↔ ∀ j, j < i → ¬ ((l.getD j default).d = (l.getD i default).d ∧ (l.getD j default).c = (l.getD i default).c) := by
      unfold fstF
      rw [List.all_eq_true]
      constructor
      · intro h j hj
        have := h (l.getD j default) (by
          rw [List.mem_iff_getElem?]
          refine ⟨j, ?_⟩
          rw [List.getElem?_take_of_lt hj, List.getD_eq_getElem?_getD, List.getElem?_eq_getElem (by omega)]
          rfl)
        intro e
        rw [decide_eq_true e] at this
        cases this
      · intro h y hy
        obtain ⟨j, hj⟩ := List.mem_iff_getElem?.1 hy
        have hjl : j < i := by
          have := (List.getElem?_eq_some_iff.1 hj).1
          rw [List.length_take] at this; omega
        rw [List.getElem?_take_of_lt hjl] at hj
        have e : l.getD j default = y := by rw [List.getD_eq_getElem?_getD, hj]; rfl
        have := h j hjl
        rw [e] at this
        rw [decide_eq_false this]
        rfl
    rw [netR]
    by_cases c : fstF l i = true ∧ smDC l (l.getD i default).d (l.getD i default).c ≠ 0
    · rw [if_pos c]
      have hp := putF_perm (netR l i) ⟨(l.getD i default).d, (l.getD i default).c, smDC l (l.getD i default).d (l.getD i default).c⟩
      have hnew : (⟨(l.getD i default).d, (l.getD i default).c, smDC l (l.getD i default).d (l.getD i default).c⟩ : Flw) ∉ netR l i := fun hx => by
        obtain ⟨_, j, hj, e⟩ := (h3 _).1 hx
        exact (hone.1 c.1) j hj e
      refine ⟨putF_srt _ h1, hp.nodup_iff.2 (List.nodup_cons.2 ⟨hnew, h2⟩), fun x => ?_⟩
      rw [hp.mem_iff, List.mem_cons, h3 x]
      constructor
      · rintro (rfl | ⟨h, j, hj, e⟩)
        · exact ⟨⟨c.2, rfl⟩, i, by omega, rfl, rfl⟩
        · exact ⟨h, j, by omega, e⟩
      · rintro ⟨h, j, hj, e⟩
        by_cases hji : j = i
        · subst hji
          exact .inl (flw_ext e.1.symm e.2.symm (by rw [h.2, e.1, e.2]))
        · exact .inr ⟨h, j, by omega, e⟩
    · rw [if_neg c]
      refine ⟨h1, h2, fun x => ?_⟩
      rw [h3 x]
      constructor
      · rintro ⟨h, j, hj, e⟩
        exact ⟨h, j, by omega, e⟩
      · rintro ⟨h, j, hj, e⟩
        by_cases hji : j = i
        · subst hji
          refine ⟨h, ?_⟩
          by_cases c1 : fstF l j = true
          · exact absurd ⟨c1, by rw [e.1, e.2, ← h.2]; exact h.1⟩ c
          · refine Classical.byContradiction fun hx => c1 (hone.2 fun k hk e2 => hx ⟨k, hk, ?_, ?_⟩)
            · rw [e2.1, e.1]
            · rw [e2.2, e.2]
        · exact ⟨h, j, by omega, e⟩
theorem netR_net (l : List Flw) : NetS l (netR l l.length) := by
  obtain ⟨h1, h2, h3⟩ := netR_ok l l.length (Nat.le_refl _)
  refine ⟨h1, h2, fun x => ?_⟩
  rw [h3 x]
  refine ⟨fun h => h.1, fun h => ⟨h, ?_⟩⟩
  refine Classical.byContradiction fun c => ?_
  have := smDC_none (l := l) (d := x.d) (c := x.c) (fun y hy k => by
    obtain ⟨j, hj⟩ := List.mem_iff_getElem?.1 hy
    refine c ⟨j, (List.getElem?_eq_some_iff.1 hj).1, ?_⟩
    rw [List.getD_eq_getElem?_getD, hj]
    exact k)
  rw [this] at h
  exact h.1 h.2
/-- Not all fit: there is one that does not. -/
theorem fits_not {l : List Flw} (h : ¬ FitsA l) : ∃ i, i < l.length ∧ inR (smDC l (l.getD i default).d (l.getD i default).c) = false := by
  refine Classical.byContradiction fun c => h fun d c' => ?_
  by_cases k : ∃ x ∈ l, x.d = d ∧ x.c = c'
  · obtain ⟨x, hx, rfl, rfl⟩ := k
    obtain ⟨j, hj⟩ := List.mem_iff_getElem?.1 hx
    cases hr : inR (smDC l x.d x.c) with
    | true => rfl
    | false =>
      refine absurd ⟨j, (List.getElem?_eq_some_iff.1 hj).1, ?_⟩ c
      rw [List.getD_eq_getElem?_getD, hj]
      exact hr
  · rw [smDC_none (fun x hx e => k ⟨x, hx, e⟩)]
    exact fit0
theorem fits_yes {l : List Flw} (h : ∀ i, i < l.length → inR (smDC l (l.getD i default).d (l.getD i default).c) = true) : FitsA l := by
  refine Classical.byContradiction fun c => ?_
  obtain ⟨i, hi, hx⟩ := fits_not c
  rw [h i hi] at hx
  cases hx
/-- Flows told from another one on, going round. -/
def rotF (l : List Flw) (k : Nat) : List Flw := l.drop k ++ l.take k
theorem rotF_perm (l : List Flw) (k : Nat) : (rotF l k).Perm l := by
  unfold rotF
  have := List.perm_append_comm (l₁ := l.drop k) (l₂ := l.take k)
  rw [List.take_append_drop] at this
  exact this
theorem rotF_len (l : List Flw) (k : Nat) : (rotF l k).length = l.length := (rotF_perm l k).length_eq
theorem rotF_get {l : List Flw} {k i : Nat} (hk : k < l.length) (hi : i < l.length) : (rotF l k).getD i default = l.getD ((k + i) % l.length) default := by
  unfold rotF
  rw [List.getD_eq_getElem?_getD, List.getD_eq_getElem?_getD]
  by_cases c : i < l.length - k
  · rw [List.getElem?_append_left (by rw [List.length_drop]; exact c), List.getElem?_drop, Nat.mod_eq_of_lt (by omega)]
  · rw [List.getElem?_append_right (by rw [List.length_drop]; omega), List.length_drop, List.getElem?_take_of_lt (by omega)]
    congr 2
    rw [Nat.mod_eq_sub_mod (by omega), Nat.mod_eq_of_lt (by omega)]
    omega
theorem take_rot {l : List Flw} {k i : Nat} (hk : k < l.length) (hi : i < l.length) : (rotF l k).take (i + 1) = (rotF l k).take i ++ [l.getD ((k + i) % l.length) default] := by
  rw [← rotF_get hk hi, List.take_add_one, List.getD_eq_getElem?_getD, List.getElem?_eq_getElem (by rw [rotF_len]; exact hi)]
  rfl

end Go.Proofs.YtgeneoamngfomaaGreatDoor

namespace Go.Proofs.YtgeneoamngfomaaGreatDoor
open Go Go.RowKit Go.Maps Go.ChangeMaps Go.MapKept Go.WideElems
set_option linter.unusedVariables false
set_option linter.unusedSimpArgs false

section
variable {H : Type} {P : Program} {w : World} {t k E : TypeId} {R : Value → Option (DataW H × List MemPlace)} {b : Nat} {es : Array MapEntry} {clock : Nat}

theorem nodup_at {l : List MapEntry} (hn : (l.map (·.key)).Nodup) {i j : Nat} {a c : MapEntry} (ha : l[i]? = some a) (hc : l[j]? = some c) (h : a.key = c.key) : i = j := by
  obtain ⟨hi, ea⟩ := List.getElem?_eq_some_iff.1 ha
  obtain ⟨hj, ec⟩ := List.getElem?_eq_some_iff.1 hc
  have hp := List.pairwise_iff_getElem.1 hn
  have e : ∀ k (hk : k < l.length), (l.map (·.key))[k]'(by rw [List.length_map]; exact hk) = (l[k]).key := fun k hk => List.getElem_map _
  rcases Nat.lt_trichotomy i j with hij | hij | hij
  · exact absurd (by rw [e i hi, e j hj, ea, ec]; exact h) (hp i j (by rw [List.length_map]; exact hi) (by rw [List.length_map]; exact hj) hij)
  · exact hij
  · exact absurd (by rw [e i hi, e j hj, ea, ec]; exact h.symm) (hp j i (by rw [List.length_map]; exact hj) (by rw [List.length_map]; exact hi) hij)
/-- An entry, and a store into it: what a store by its key does, in whichever world. -/
theorem entry_any (K : Keyed P k) (ht : P.underlying t = some (.map k E)) {z : Value} (hz : ∀ u : World, (zeroValue E).run P u = .ok z u) (hb : w.heap[b]? = some (.map es clock)) (F : Fit P k R es clock)
    {key : Value} {kl : Lit} (hkey : keyOf P k key = some kl) :
    ∃ (v0 : Value) (st : Nat) (es1 : Array MapEntry) (clock1 : Nat), (Instr.mapEntry t (.map (some b)) key).run P w = .ok (.tuple #[v0, goInt st]) (setBlock w b (.map es1 clock1)) ∧
      ((∃ e0 ∈ es.toList, e0.key = key ∧ v0 = e0.val) ∨ ((∀ x ∈ es.toList, x.key ≠ key) ∧ v0 = z)) ∧
      ∀ (w2 : World) (val : Value), w2.heap[b]? = some (.map es1 clock1) → ∃ es' clock', (Instr.entryStore t (.map (some b)) (goInt st) val).run P w2 = .ok () (setBlock w2 b (.map es' clock')) ∧
        ∀ w3 : World, w3.heap[b]? = some (.map es clock) → (Instr.mapUpdate t (.map (some b)) key val).run P w3 = .ok () (setBlock w3 b (.map es' clock')) := by
  obtain ⟨s1, s2, s3⟩ := F.stamped
  rcases K.find w hkey es.toList F.keys with ⟨h1, h2⟩ | ⟨j, e0, h1, h2, h3⟩
  · refine ⟨z, clock, es.push ⟨key, z, clock⟩, clock + 1, ?_, Or.inr ⟨h2, rfl⟩, fun w2 val hw2 => ⟨es.push ⟨key, val, clock⟩, clock + 1, ?_, fun w3 hb3 => ?_⟩⟩
    · simp [Instr.mapEntry, run_underlying ht, MapKept.run_getObj_map hb, K.check w false hkey, h1, hz, MapKept.run_setObj_map _ hb, Result.andThen, setBlock]
    · have hidx : (es.push ⟨key, z, clock⟩).findIdx? (fun e => ((e.born : Nat) : Int) == ((clock : Nat) : Int)) = some es.size := by
        rw [findIdx_arr]
        have := findIdx_born (l := (es.push ⟨key, z, clock⟩).toList) (j := es.size) (e0 := ⟨key, z, clock⟩) (by
          simp only [Array.toList_push, List.map_append, List.map_cons, List.map_nil]
          refine List.nodup_append.2 ⟨s2, by simp, fun a ha c hc e1 => ?_⟩
          simp only [List.mem_singleton] at hc
          obtain ⟨x, hx, rfl⟩ := List.mem_map.1 ha
          have := s1 x hx
          omega) (by simp)
        exact this
      have hmod : (es.push ⟨key, z, clock⟩).modify es.size (fun e => { e with val := val }) = es.push ⟨key, val, clock⟩ := by
        apply Array.ext'
        rw [Array.toList_modify, Array.toList_push, Array.toList_push, ← Array.length_toList, modify_last]
      simp [Instr.entryStore, MapKept.run_getObj_map hw2, asInt, asIntOf, goInt, hidx, hmod, MapKept.run_setObj_map _ hw2, Result.andThen, setBlock]
    · rcases K.find w3 hkey es.toList F.keys with ⟨g1, g2⟩ | ⟨i, e1, g1, g2, g3⟩
      · simp [Instr.mapUpdate, run_underlying ht, MapKept.run_getObj_map hb3, K.check w3 false hkey, g1, MapKept.run_setObj_map _ hb3, Result.andThen, setBlock]
      · exact absurd g3 (h2 e1 (List.mem_of_getElem? g2))
  · have hj : es[j]? = some e0 := by simpa using h2
    have hsame : es.modify j (fun e => { e with key := key }) = es := by
      apply Array.ext'
      rw [Array.toList_modify, modify_eq_set _ _ _ _ h2]
      have : ({ e0 with key := key } : MapEntry) = e0 := by rw [← h3]
      rw [this]
      exact set_self _ _ _ h2
    refine ⟨e0.val, e0.born, es, clock, ?_, Or.inl ⟨e0, List.mem_of_getElem? h2, h3, rfl⟩, fun w2 val hw2 => ⟨es.modify j (fun e' => { e' with key := key, val := val }), clock, ?_, fun w3 hb3 => ?_⟩⟩
    · simp [Instr.mapEntry, run_underlying ht, MapKept.run_getObj_map hb, K.check w false hkey, h1, hj, h3, K.stays w hkey, hsame, MapKept.run_setObj_map _ hb, Result.andThen, setBlock]
    · have hidx : es.findIdx? (fun e => ((e.born : Nat) : Int) == ((e0.born : Nat) : Int)) = some j := by
        rw [findIdx_arr]
        exact findIdx_born s2 h2
      have hmod : es.modify j (fun e => { e with val := val }) = es.modify j (fun e' => { e' with key := key, val := val }) := by
        apply Array.ext'
        rw [Array.toList_modify, Array.toList_modify, modify_eq_set _ _ _ _ h2, modify_eq_set _ _ _ _ h2, ← h3]
      simp [Instr.entryStore, MapKept.run_getObj_map hw2, asInt, asIntOf, goInt, hidx, hmod, MapKept.run_setObj_map _ hw2, Result.andThen, setBlock]
    · rcases K.find w3 hkey es.toList F.keys with ⟨g1, g2⟩ | ⟨i, e1, g1, g2, g3⟩
      · exact absurd h3 (g2 e0 (List.mem_of_getElem? h2))
      · have hij := nodup_at s3 g2 h2 (g3.trans h3.symm)
        subst hij
        rw [h2] at g2
        injection g2 with g2
        subst g2
        simp [Instr.mapUpdate, run_underlying ht, MapKept.run_getObj_map hb3, K.check w3 false hkey, g1, hj, h3, K.stays w3 hkey, MapKept.run_setObj_map _ hb3, Result.andThen, setBlock]
end

section
variable {H : Type} {P : Program} {w : World} {t k E e : TypeId} {q : IntKind} {base b n : Nat} {D : DataW H}
/-- What a store into an entry that was taken does. -/
def EntBack (w1 : World) (P : Program) (t k : TypeId) (base : Nat) (e : TypeId) (q : IntKind) (b n : Nat) (D : DataW H) (kl : Lit) (v : Value) (st : Nat) : Prop :=
  ∀ (w2 : World) (v' : Value) (zs' : List Int), w1.grownBy w2 v.ownBlock → w2.ownsInts base e q v' zs' → zs'.length ≤ n + 1 → (v'.ownBlock = v.ownBlock ∨ ∃ g, v'.ownBlock = some g ∧ w1.heap.size ≤ g) →
    ∃ w3, (Instr.entryStore t (.map (some b)) (goInt st) v').run P w2 = .ok () w3 ∧ w3.ownsGroups P k base e q b (n + 1) (D.put kl (rowDatum q v' zs')) ∧ w2.grownBy w3 (some b)
theorem setB_size (w : World) (b : Nat) (o : Obj) : (setBlock w b o).heap.size = w.heap.size := by simp [setBlock]
theorem groups_entry (h : w.ownsGroups P k base e q b n D) (K : Keyed P k) (ht : P.underlying t = some (.map k E)) (hz : ∀ u : World, (zeroValue E).run P u = .ok (.slice none 0 0) u) (hn : n < maxLen) {key : Value} {kl : Lit} (hkey : keyOf P k key = some kl) :
    ∃ (v : Value) (zs : List Int) (st : Nat) (w1 : World), (Instr.mapEntry t (.map (some b)) key).run P w = .ok (.tuple #[v, goInt st]) w1 ∧ D.atKey kl .nil = rowDatum q v zs ∧ w1.ownsInts base e q v zs ∧ zs.length ≤ n ∧ w.grownBy w1 (some b) ∧ w1.heap.size = w.heap.size ∧ EntBack w1 P t k base e q b n D kl v st := by
  obtain ⟨v, zs, hrun, hat, hoi, hzl, hback⟩ := h.at K ht (hz w) hn hkey
  obtain ⟨es, clock, hb, F, hs, rfl, hbb, hlen, hap⟩ := h
  obtain ⟨v0, st, es1, clock1, hE, hv0, hS⟩ := entry_any K ht hz hb F hkey
  have hv : v0 = v := by
    rcases Maps.fit_look false K ht (hz w) hb F hkey with ⟨hrun', hno, _⟩ | ⟨e0, y, hm0, h3, hrun', _, _, _⟩
    · rw [hrun] at hrun'
      have e2 : v = .slice none 0 0 := by simpa using hrun'
      rcases hv0 with ⟨e0, hm, hk, _⟩ | ⟨_, hv0⟩
      · exact absurd hk (hno e0 hm)
      · rw [hv0, e2]
    · rw [hrun] at hrun'
      have e2 : v = e0.val := by simpa using hrun'
      rcases hv0 with ⟨e1, hm, hk, hv0⟩ | ⟨hno, _⟩
      · obtain ⟨i, hi⟩ := List.mem_iff_getElem?.1 hm0
        obtain ⟨j, hj⟩ := List.mem_iff_getElem?.1 hm
        have hij := nodup_at F.stamped.2.2 hi hj (h3.trans hk.symm)
        subst hij
        rw [hi] at hj
        injection hj with hj
        rw [hv0, e2, hj]
      · exact absurd h3 (hno e0 hm0)
  subst hv
  have hg : w.grownBy (setBlock w b (.map es1 clock1)) (some b) := ⟨rfl, rfl, rfl, by simp [setBlock], fun i _ hi => heap_setBlock_other hb _ (fun e1 => hi (by rw [e1]))⟩
  have hvb : v0.ownBlock = none ∨ v0.ownBlock ≠ some b := by
    cases hx : v0.ownBlock with
    | none => exact .inl rfl
    | some g =>
      refine .inr (fun e1 => ?_)
      have := (hoi.1.lt g hx).1
      cases e1
      omega
  refine ⟨v0, zs, st, _, hE, hat, hoi.kept hg hvb, hzl, hg, setB_size _ _ _, fun w2 v' zs' hg2 hown' hl' hloc => ?_⟩
  have hblt : b < w.heap.size := (Array.getElem?_eq_some_iff.1 hb).1
  have hne : some b ≠ v0.ownBlock := fun e1 => by
    rcases hvb with h1 | h1
    · rw [h1] at e1; cases e1
    · exact h1 e1.symm
  have hb2 : w2.heap[b]? = some (.map es1 clock1) := (hg2.block b (by rw [setB_size]; exact hblt) hne).trans (heap_setBlock_same hb _)
  obtain ⟨es', clock', r1, r2⟩ := hS w2 v' hb2
  have hgw : w2.grownBy (setBlock w2 b (.map es clock)) (some b) := ⟨rfl, rfl, rfl, by simp [setBlock], fun i _ hi => heap_setBlock_other hb2 _ (fun e1 => hi (by rw [e1]))⟩
  have hb3 : (setBlock w2 b (.map es clock)).heap[b]? = some (.map es clock) := heap_setBlock_same hb2 _
  have hvb' : v'.ownBlock = none ∨ v'.ownBlock ≠ some b := by
    cases hx : v'.ownBlock with
    | none => exact .inl rfl
    | some g =>
      refine .inr (fun e1 => ?_)
      have := (hown'.1.lt g hx).1
      cases e1
      omega
  have hgrow : w.grownBy (setBlock w2 b (.map es clock)) v0.ownBlock := by
    refine ⟨hgw.os.trans (hg2.os.trans hg.os), hgw.tape.trans (hg2.tape.trans hg.tape), hgw.output.trans (hg2.output.trans hg.output), Nat.le_trans (Nat.le_trans hg.size hg2.size) hgw.size, fun i hi hne2 => ?_⟩
    by_cases hib : i = b
    · subst hib
      rw [hb3, hb]
    · have hibs : some i ≠ some b := fun e1 => hib (by injection e1)
      rw [hgw.block i (Nat.lt_of_lt_of_le hi (Nat.le_trans hg.size hg2.size)) hibs, hg2.block i (Nat.lt_of_lt_of_le hi hg.size) hne2, hg.block i hi hibs]
  obtain ⟨w3, q1, q2, q3⟩ := hback (setBlock w2 b (.map es clock)) v' zs' hgrow (hown'.kept hgw hvb') hl' (by rw [setB_size] at hloc; exact hloc)
  rw [r2 _ hb3] at q1
  have e3 : setBlock (setBlock w2 b (.map es clock)) b (.map es' clock') = w3 := by simpa using q1
  have e4 : setBlock (setBlock w2 b (.map es clock)) b (.map es' clock') = setBlock w2 b (.map es' clock') := by
    simp [setBlock]
  refine ⟨w3, ?_, q2, ?_⟩
  · rw [r1, ← e3, e4]
  · rw [← e3, e4]
    exact ⟨rfl, rfl, rfl, by simp [setBlock], fun i _ hi => heap_setBlock_other hb2 _ (fun e1 => hi (by rw [e1]))⟩
end

end Go.Proofs.YtgeneoamngfomaaGreatDoor

namespace Go.Proofs.YtgeneoamngfomaaGreatDoor
open Go.RowKit Go.Lib Go.Maps Go.ChangeShapes
set_option linter.unusedVariables false
set_option linter.unusedSimpArgs false

theorem i64_ofS {a : Int} (h : (Lit.int .i64 a).wf = true) : I64 a := by
  unfold Lit.wf at h
  rw [Bool.and_eq_true, decide_eq_true_iff, decide_eq_true_iff] at h
  exact h
theorem smk_row : (108 : TypeId) < Tryz.prog.types.size := of_decide_eq_true (by kernel_rfl)
theorem smk_wide : (match Tryz.prog.underlying 108 with | some (.array _ _) | some (.struct _) => true | _ => false) = true := by kernel_rfl
set_option maxRecDepth 100000 in
theorem smk_law : Keyed Tryz.prog 108 := Keyed.of_law (deep_law_laid fc_laidOut (m := 2) (by omega) smk_row (by kernel_rfl) smk_wide)
theorem smk_lits {a b : Int} (ha : (Lit.int .i64 a).wf = true) (hb : (Lit.int .i64 b).wf = true) : Tryz.prog.keyLits (Tryz.prog.types.size + 1) 108 [.int .i64 a, .int .i64 b] = some [.int .i64 a, .int .i64 b] := by
  obtain ⟨q, hq⟩ : ∃ q, Tryz.prog.types.size = q + 1 := ex_succ smk_row
  rw [hq]
  have hc : Tryz.prog.cellsOf 3 = 1 := by kernel_rfl
  have hc2 : Tryz.prog.cellsOf 108 = 2 := by kernel_rfl
  have hi : ∀ a : Int, (Lit.int .i64 a).wf = true → Tryz.prog.keyLits (q + 1) 3 [.int .i64 a] = some [.int .i64 a] := fun a h => by
    simp [Program.keyLits, Tryz.underlying3, h]
  unfold Program.keyLits
  simp [Tryz.underlying108, hc, hc2, hi _ ha, hi _ hb]
theorem smk_key {a b : Int} (ha : I64 a) (hb : I64 b) : keyOf Tryz.prog 108 (plv a b) = some (plk a b) := by
  have hl := smk_lits (wf64 ha) (wf64 hb)
  have hk : Tryz.prog.keyType 108 = true := by kernel_rfl
  have hc2 : Tryz.prog.cellsOf 108 = 2 := by kernel_rfl
  have hf : (plv a b).formed Tryz.prog 108 = true := by
    unfold plv
    simp [Value.formed, Tryz.underlying108, hc2]
  unfold keyOf
  rw [Tryz.underlying108]
  dsimp only
  rw [hk, hf]
  show (if (true && true) = true then (Tryz.prog.keyLits (Tryz.prog.types.size + 1) 108 [.int .i64 a, .int .i64 b]).map _ else none) = _
  rw [hl]
  rfl
set_option maxRecDepth 100000 in
/-- What reads as a place is one. -/
theorem smk_inv {v : Value} {kl : Lit} (h : keyOf Tryz.prog 108 v = some kl) : ∃ x : Int × Int, v = plv x.1 x.2 ∧ I64 x.1 ∧ I64 x.2 ∧ kl = plk x.1 x.2 := by
  have hc2 : Tryz.prog.cellsOf 108 = 2 := by kernel_rfl
  have hc1 : Tryz.prog.cellsOf 3 = 1 := by kernel_rfl
  obtain ⟨q, hq⟩ : ∃ q, Tryz.prog.types.size = q + 1 := ex_succ smk_row
  have hno : ∀ u : Value, (¬ ∃ a, u = .int .i64 a ∧ (Lit.int .i64 a).wf = true) → Tryz.prog.keyLits (q + 1) 3 [u] = none := fun u hu => by
    cases u
    case int k a =>
      by_cases e : k = .i64 ∧ (Lit.int .i64 a).wf = true
      · exact absurd ⟨a, by rw [e.1], e.2⟩ hu
      · simp [Program.keyLits, Tryz.underlying3]
        intro e1
        subst e1
        cases hw : (Lit.int .i64 a).wf with
        | false => rfl
        | true => exact absurd ⟨rfl, hw⟩ e
    all_goals simp [Program.keyLits, Tryz.underlying3]
  have h0 := h
  unfold keyOf at h
  rw [Tryz.underlying108] at h
  dsimp only at h
  split at h
  · rename_i hc
    rw [Bool.and_eq_true] at hc
    have hf := hc.2
    cases v <;> simp [Value.formed, Tryz.underlying108, hc2] at hf
    rename_i cs
    obtain ⟨u, w, rfl⟩ : ∃ u w, cs = #[u, w] := by
      obtain ⟨l⟩ := cs
      match l, hf with
      | [u, w], _ => exact ⟨u, w, rfl⟩
    rw [hq] at h
    unfold Program.keyLits at h
    simp [Tryz.underlying108, hc1, hc2, Value.cells] at h
    by_cases e1 : ∃ a, u = .int .i64 a ∧ (Lit.int .i64 a).wf = true
    · by_cases e2 : ∃ a, w = .int .i64 a ∧ (Lit.int .i64 a).wf = true
      · obtain ⟨a, rfl, ha⟩ := e1
        obtain ⟨b, rfl, hb⟩ := e2
        refine ⟨(a, b), rfl, i64_ofS ha, i64_ofS hb, ?_⟩
        have := smk_key (i64_ofS ha) (i64_ofS hb)
        unfold plv at this
        rw [this] at h0
        injection h0 with h0
        exact h0.symm
      · rw [hno w e2] at h
        cases hk : Tryz.prog.keyLits (q + 1) 3 [u] with
        | none => rw [hk] at h; simp at h
        | some l => rw [hk] at h; simp at h
    · rw [hno u e1] at h
      simp at h
  · cases h



/-- The amounts that a datum has. -/
def itL : DataW Unit → Int
  | .lit (.int .i64 n) => n
  | _ => 0
def itS : DataW Unit → List Int
  | .slice es _ => es.map itL
  | _ => []
theorem itS_lits (zs : List Int) : itS (.slice (lits .i64 zs) []) = zs := by
  show (lits .i64 zs).map itL = zs
  unfold lits
  rw [List.map_map]
  have : (itL ∘ fun n : Int => (DataW.lit (.int .i64 n) : DataW Unit)) = id := funext fun n => rfl
  rw [this, List.map_id]
theorem itS_row {w : World} {base : Nat} {e : TypeId} {v : Value} {zs : List Int} (h : w.ownsInts base e .i64 v zs) : itS (rowDatum .i64 v zs) = zs := by
  rcases h.datum (H := Unit) with ⟨h1, h2⟩ | h1
  · rw [h1, h2]; rfl
  · rw [h1, itS_lits]
/-- What the map holds of some flows. -/
structure GrpS (D : DataW Unit) (m : List Flw) : Prop where
  im : IsMap D
  at' : ∀ d c, I64 d → I64 c → itS (D.atKey (plk d c) .nil) = amsF m d c
  has' : ∀ x ∈ m, Maps.has D (plk x.d x.c) = true
theorem GrpS.nil : GrpS (.map []) [] := ⟨⟨[], rfl⟩, fun d c _ _ => rfl, fun x hx => (by cases hx)⟩
theorem skey_ok {a b : Int} (ha : I64 a) (hb : I64 b) : WideAt.IsKeyLit (plk a b) := smk_law.key (smk_key ha hb)
theorem GrpS.step {D : DataW Unit} {m : List Flw} (h : GrpS D m) {x : Flw} (hd : I64 x.d) (hc : I64 x.c) (hm : ∀ y ∈ m, I64 y.d ∧ I64 y.c) {w w' : World} {base : Nat} {e : TypeId} {v v' : Value} {zs : List Int} (hat : D.atKey (plk x.d x.c) .nil = rowDatum .i64 v zs) (ho : w.ownsInts base e .i64 v zs) (ho' : w'.ownsInts base e .i64 v' (zs ++ [x.n])) : GrpS (D.put (plk x.d x.c) (rowDatum .i64 v' (zs ++ [x.n]))) (m ++ [x]) := by
  have hz : amsF m x.d x.c = zs := by rw [← h.at' _ _ hd hc, hat, itS_row ho]
  refine ⟨h.im.put _ _, fun d c h1 h2 => ?_, fun y hy => ?_⟩
  · rw [amsF_snoc]
    by_cases e1 : x.d = d ∧ x.c = c
    · rw [if_pos e1, ← e1.1, ← e1.2, atKey_put_same h.im (skey_ok hd hc), itS_row ho', hz]
    · rw [if_neg e1, atKey_put_other (fun e2 => e1 (by have := plk_inj h1 h2 hd hc e2; exact ⟨this.1.symm, this.2.symm⟩)), h.at' _ _ h1 h2]
  · rcases List.mem_append.1 hy with hy | hy
    · by_cases e1 : plk y.d y.c = plk x.d x.c
      · rw [e1]; exact has_put_same h.im (skey_ok hd hc) _
      · rw [has_put_other e1]; exact h.has' y hy
    · rw [List.mem_singleton.1 hy]; exact has_put_same h.im (skey_ok hd hc) _
/-- The keys that have come. -/
structure CamS (D : DataW Unit) (left : Lit → Bool) (ps : List (Int × Int)) : Prop where
  ok : ∀ t ∈ ps, I64 t.1 ∧ I64 t.2
  gone : ∀ t ∈ ps, left (plk t.1 t.2) = false
  nd : ps.Nodup
  all : ∀ kl, Maps.has D kl = true → left kl = true ∨ ∃ t ∈ ps, plk t.1 t.2 = kl
theorem CamS.start (D : DataW Unit) : CamS D (Maps.has D) [] := ⟨fun t h => (by cases h), fun t h => (by cases h), List.nodup_nil, fun kl h => .inl h⟩
theorem CamS.step {D : DataW Unit} {left : Lit → Bool} {ps : List (Int × Int)} (h : CamS D left ps) {t : Int × Int} (hok : I64 t.1 ∧ I64 t.2) (hl : left (plk t.1 t.2) = true) : CamS D (fun z => left z && !z.sameKey (plk t.1 t.2)) (ps ++ [t]) := by
  refine ⟨fun u hu => ?_, fun u hu => ?_, ?_, fun kl hk => ?_⟩
  · rcases List.mem_append.1 hu with hu | hu
    · exact h.ok u hu
    · rw [List.mem_singleton.1 hu]; exact hok
  · rcases List.mem_append.1 hu with hu | hu
    · rw [h.gone u hu]; rfl
    · rw [List.mem_singleton.1 hu]
      have hs : (plk t.1 t.2).sameKey (plk t.1 t.2) = true := WideAt.sameKey_self (skey_ok hok.1 hok.2)
      rw [hs]; simp
  · rw [List.nodup_append]
    refine ⟨h.nd, by simp, fun a ha b hb => ?_⟩
    rw [List.mem_singleton] at hb
    intro e
    have := h.gone a ha
    rw [e, hb, hl] at this
    cases this
  · rcases h.all kl hk with h1 | ⟨u, hu, e⟩
    · cases hs : kl.sameKey (plk t.1 t.2) with
      | true => exact .inr ⟨t, by simp, (WideAt.sameKey_eq hs).symm⟩
      | false => exact .inl (by rw [h1]; rfl)
    · exact .inr ⟨u, by simp [hu], e⟩
theorem CamS.done {D : DataW Unit} {left : Lit → Bool} {ps : List (Int × Int)} (h : CamS D left ps) (hl : ∀ kl, left kl = false) {m : List Flw} (hg : GrpS D m) (hm : ∀ y ∈ m, I64 y.d ∧ I64 y.c) : ∀ x ∈ m, (x.d, x.c) ∈ ps := fun x hx => by
  rcases h.all _ (hg.has' x hx) with h1 | ⟨t, ht, e⟩
  · rw [hl] at h1; cases h1
  · have := plk_inj (h.ok t ht).1 (h.ok t ht).2 (hm x hx).1 (hm x hx).2 e
    rw [← this.1, ← this.2]; exact ht
/-- The map of slices as one that is gone through: what its elements are is said by the world in which the loop began. -/
theorem groups_own {w : World} {base b n : Nat} {D : DataW Unit} (h : w.ownsGroups Tryz.prog 108 base 3 .i64 b n D) : w.ownsMap Tryz.prog 108 (rowElem w base 3 .i64) b n D ∧ b < base := by
  obtain ⟨es, clock, hb, F, hs, hD, hbb, _, _⟩ := h
  exact ⟨⟨es, clock, hb, F, hs, hD⟩, hbb⟩
theorem smz (w : World) : (zeroValue 83).run Tryz.prog w = .ok (.slice none 0 0) w := by kernel_rfl

end Go.Proofs.YtgeneoamngfomaaGreatDoor

namespace Go.Proofs.YtgeneoamngfomaaGreatDoor
open Go.RowKit Go.Lib Go.Maps Go.ChangeShapes
open Go.WideElems (Fit rd rg pl rd_val)
set_option linter.unusedVariables false
set_option linter.unusedSimpArgs false

/-- The groups stay where new blocks alone are made. -/
theorem groups_below {P : Program} {k e : TypeId} {q : IntKind} {w w' : World} {base b n : Nat} {D : DataW Unit} (h : w.ownsGroups P k base e q b n D) (hb0 : Below w.heap.size w w') : w'.ownsGroups P k base e q b n D := by
  obtain ⟨es, clock, hb, F, hs, rfl, hbb, hlen, hap⟩ := h
  have hg := grown_below hb0
  have hblt : b < w.heap.size := (Array.getElem?_eq_some_iff.1 hb).1
  have no : ∀ v : Value, v.ownBlock = none ∨ v.ownBlock ≠ none := fun v => by cases v.ownBlock <;> simp
  have hst : ∀ x ∈ es.toList, ∀ z, rowElem (H := Unit) w base e q x.val = some z → rowElem w' base e q x.val = some z := fun x hx z hz => by
    obtain ⟨zs, ho, rfl⟩ := rowElem_inv hz
    exact rowElem_mk (ho.kept hg (no _))
  obtain ⟨F1, hmap, _⟩ := F.stay hst
  refine ⟨es, clock, (hg.block b hblt (by simp)).trans hb, F1, hs, by rw [hmap], hbb, fun x hx zs ho => ?_, hap⟩
  obtain ⟨y, hy⟩ := F.reads x hx
  obtain ⟨z, hz, _⟩ := rd_val hy
  obtain ⟨zs0, ho0, _⟩ := rowElem_inv hz
  rw [ho.unique (ho0.kept hg (no _))]
  exact hlen x hx zs0 ho0
/-- amount.Sum of a slice that is owned. -/
theorem sumS_any (w : World) {base : Nat} {v : Value} {zs : List Int} (h : w.ownsInts base 3 .i64 v zs) (hl : zs.length ≤ 100000) :
    Calls Tryz.prog 44 #[v] w fun e w' => e = .returned (.tuple #[.int .i64 (fitN (sumL zs)), .int .i64 (fitE (sumL zs))]) ∧ w = w' := by
  have hi : InI zs := fun t => by
    rw [List.getD_eq_getElem?_getD]
    cases hx : zs[t]? with
    | none => exact ⟨by decide, by decide⟩
    | some x => exact i64_ofS (h.2 x (List.mem_of_getElem? hx))
  have hr := h.1
  rcases h.1.2 with ⟨rfl, h0⟩ | ⟨g, cap, cur, rfl, _⟩
  · have : zs = [] := List.length_eq_zero_iff.1 h0
    subst this
    exact sum_nil none 0 w
  · refine sum_row zs g 0 cap w (fun t ht => ?_) hi (by omega)
    have := hr.cellAt t (by omega)
    rw [Nat.zero_add, this]
    simp [List.getD, List.getElem?_eq_getElem ht]
theorem own_slS {w : World} {base : Nat} {e : TypeId} {q : IntKind} {v : Value} {zs : List Int} (h : w.ownsInts base e q v zs) : ∃ a c, v = .slice a zs.length c := by
  rcases h.1.2 with ⟨rfl, h0⟩ | ⟨g, cap, cur, rfl, _⟩
  · exact ⟨none, 0, by rw [h0]⟩
  · exact ⟨_, _, rfl⟩
/-- What Net answers. -/
def NetQ (w : World) (l : List Flw) (e : Ending) (w' : World) : Prop :=
  Below w.heap.size w w' ∧ ∃ v m er, e = .returned (.tuple #[v, .int .i64 er]) ∧ OwnX flL 3 50 w' w.heap.size v m ∧ m.length ≤ l.length ∧ (FitsA l → er = 0 ∧ NetS l m) ∧ (¬ FitsA l → er = 11 ∧ m = [])
theorem take_flD {L : List Flw} {i : Nat} (h : i < L.length) : L.take (i + 1) = L.take i ++ [L.getD i default] := by
  rw [List.take_add_one, List.getElem?_eq_getElem h, List.getD_eq_getElem?_getD, List.getElem?_eq_getElem h]; rfl
theorem mem_getD {L : List Flw} {i : Nat} (h : i < L.length) : L.getD i default ∈ L := by
  rw [List.getD_eq_getElem?_getD, List.getElem?_eq_getElem h]; exact List.getElem_mem h
theorem GrpS.step3 {D : DataW Unit} {m : List Flw} (h : GrpS D m) (d c n : Int) (hd : I64 d) (hc : I64 c) (hm : ∀ y ∈ m, I64 y.d ∧ I64 y.c) {w w' : World} {base : Nat} {e : TypeId} {v v' : Value} {zs : List Int} (hat : D.atKey (plk d c) .nil = rowDatum .i64 v zs) (ho : w.ownsInts base e .i64 v zs) (ho' : w'.ownsInts base e .i64 v' (zs ++ [n])) : GrpS (D.put (plk d c) (rowDatum .i64 v' (zs ++ [n]))) (m ++ [⟨d, c, n⟩]) :=
  GrpS.step h (x := ⟨d, c, n⟩) hd hc hm hat ho ho'
set_option maxRecDepth 100000 in
set_option maxHeartbeats 1000000 in
theorem net_any (w : World) (l : List Flw) (hl : l.length ≤ 1000) (hi : ∀ x ∈ l, I64 x.d ∧ I64 x.c ∧ I64 x.n) (v : Value) (h : RowX flL 3 w v l) :
    Calls Tryz.prog 15 #[v] w (NetQ w l) := by
  obtain ⟨va, vc, rfl⟩ := h.slice
  have hmm := @run_makeMap Tryz.prog
  obtain ⟨i0, hi0, hz0, hz1, hz2⟩ := info_parts Tryz.infoI
  have HRow := Lib.hid h
  have HI := Lib.hid hi
  have HL := Lib.hid hl
  clear h hi hl
  go_enter Tryz.func15, Tryz.ntmps15
  go_wp2_with fail
  go_step3
  go_wp2_with fail
  go_loopw [17] (fun vi wx => ∃ k : Nat, k ≤ l.length ∧ vi = .int .i64 (k : Nat) ∧ ∃ D, wx.ownsGroups Tryz.prog 108 (w.heap.size + 1) 3 .i64 w.heap.size k D ∧ GrpS D (l.take k) ∧ Below w.heap.size w wx ∧ w.heap.size + 1 ≤ wx.heap.size) (fun vi _ => l.length - (RowKit.intOf vi).toNat)
  case atStart => exact ⟨0, Nat.zero_le _, rfl, .map [], World.ownsGroups_made _ _ _ _ _, GrpS.nil, newF _ _, by simp⟩
  case round =>
    obtain ⟨k, hk, rfl, D, hown, hgr, hbel, hsz⟩ := hrel
    have HO := Lib.hid hown
    have HG := Lib.hid hgr
    have HB := Lib.hid hbel
    have HZ := Lib.hid hsz
    by_cases hlt : k < l.length
    · have p0 : (0 : Int) ≤ (k : Int) := by omega
      have p1 : (k : Int) < (l.length : Int) := by omega
      have HLt := Lib.hid hlt
      obtain ⟨ga, oa, ca1, hv, hf1, hf2, hTa⟩ : ∃ g o cap, Value.slice va l.length vc = .slice (some ⟨g, o, none⟩) l.length cap ∧ l.length ≤ cap ∧ cap ≤ 9223372036854775807 ∧ ∀ j, j < l.length → ∀ i c, i < 3 → (flL (l.getD j default))[i]? = some c → w.cell? ⟨g, o + j * 3 + i, none⟩ = some c := by
        rcases HRow.out with ⟨e, _⟩ | ⟨_, g, o, cap, h1, h2, h3, h4⟩
        · rw [e] at hlt; exact absurd hlt (Nat.not_lt_zero _)
        · exact ⟨g, o, cap, h1, h2, h3, h4⟩
      injection hv with hv1 _ hv3
      subst hv1 hv3
      have k0 : wr.cell? ⟨ga, oa + k * 3, none⟩ = some (.int .i64 (l.getD k default).d) := keepF hbel (hTa k hlt 0 _ (by omega) rfl)
      have k1 : wr.cell? ⟨ga, oa + k * 3 + 1, none⟩ = some (.int .i64 (l.getD k default).c) := keepF hbel (hTa k hlt 1 _ (by omega) rfl)
      have k2 : wr.cell? ⟨ga, oa + k * 3 + 2, none⟩ = some (.int .i64 (l.getD k default).n) := keepF hbel (hTa k hlt 2 _ (by omega) rfl)
      have HTk := Lib.hid (take_flD hlt)
      have HIx := Lib.hid (HI.out _ (mem_getD hlt))
      have HIm : Hid (∀ y ∈ l.take k, I64 y.d ∧ I64 y.c) := Lib.hid (fun y hy => ⟨(HI.out y (List.mem_of_mem_take hy)).1, (HI.out y (List.mem_of_mem_take hy)).2.1⟩)
      have hb1 := newF wr (.cells #[.int .i64 (l.getD k default).d, .int .i64 (l.getD k default).c, .int .i64 (l.getD k default).n] 50)
      have hb2 := onF hb1 (newF _ (.cells #[.int .i64 (l.getD k default).d, .int .i64 (l.getD k default).c] 108))
      have hb3 := onF hb2 (newF _ (.cells #[.int .i64 (l.getD k default).n] 3))
      generalize l.getD k default = y at *
      obtain ⟨yd, yc, yn⟩ := y
      dsimp only at k0 k1 k2 HIx hb1 hb2 hb3
      have HO3 := Lib.hid (groups_below hown hb3)
      have HB3 := Lib.hid (onF hbel hb3)
      have HK := Lib.hid (smk_key HIx.out.1 HIx.out.2.1)
      have HC3 : Hid (((((wr.alloc (.cells #[.int .i64 yd, .int .i64 yc, .int .i64 yn] 50)).alloc (.cells #[.int .i64 yd, .int .i64 yc] 108)).alloc (.cells #[.int .i64 yn] 3)).cell? ⟨wr.heap.size + 1 + 1, 0, none⟩ = some (.int .i64 yn))) := Lib.hid (by rw [World.cell?_alloc_at _ _ _ _ (by simp)]; rfl)
      have HZ3 : Hid ((((wr.alloc (.cells #[.int .i64 yd, .int .i64 yc, .int .i64 yn] 50)).alloc (.cells #[.int .i64 yd, .int .i64 yc] 108)).alloc (.cells #[.int .i64 yn] 3)).heap.size = wr.heap.size + 1 + 1 + 1) := Lib.hid (by simp)
      clear hTa hlt hown hgr hbel hsz hb1 hb2 hb3
      obtain ⟨v, zs, st, w1, hrunE, hat, hoi, hzl, hg1, hs1, hback⟩ := groups_entry HO3.out smk_law Tryz.underlying106 smz (by have := HLt.out; have := HL.out; unfold maxLen; omega) HK.out
      have hrunE' : (Instr.mapEntry 106 (.map (some w.heap.size)) (.agg #[.int .i64 yd, .int .i64 yc])).run Tryz.prog (((wr.alloc (.cells #[.int .i64 yd, .int .i64 yc, .int .i64 yn] 50)).alloc (.cells #[.int .i64 yd, .int .i64 yc] 108)).alloc (.cells #[.int .i64 yn] 3)) = .ok (.tuple #[v, .int .i64 (st : Int)]) w1 := hrunE
      clear hrunE
      go_wp2_with (at_builtin; refine wpList_append_own_at _ rfl _ _ 83 rfl (w.heap.size + 1) 3 i0 (.int .i64 0) 1 8 Tryz.underlying83 hi0 hz0 hz1 hz2 rfl (by decide) _ _ _ rfl hoi.1 ⟨wr.heap.size + 1 + 1, 0, none⟩ 1 1 [.int .i64 yn] rfl rfl (fun j u hj => by
            have hj0 : j = 0 := by have := (List.getElem?_eq_some_iff.1 hj).1; simpa using this
            subst hj0
            have hu : u = .int .i64 yn := by simpa using hj.symm
            subst hu
            exact (World.cell?_of_block (hg1.block _ (by have := HZ3.out; show wr.heap.size + 1 + 1 < _; omega) (fun e => by injection e with e; have := HZ.out; have e' : wr.heap.size + 1 + 1 = w.heap.size := e; omega))).trans HC3.out) (ints_oneCell .i64 [yn]) (by have := HLt.out; have := HL.out; unfold maxLen; omega) (by have := HLt.out; have := HL.out; omega) (by have := HZ3.out; have := HZ.out; omega) ?_; intro v' w2 hown' hgrow hnil hloc; obtain ⟨w3, hst, hown3, hg3⟩ := hback w2 v' _ hgrow (hoi.appended hown' (wf64 HIx.out.2.2)) (by simp; omega) (hloc.imp id (fun h => ⟨_, h, Nat.le_refl _⟩)); have hst' : (Instr.entryStore 106 (.map (some w.heap.size)) (.int .i64 (st : Int)) v').run Tryz.prog w2 = .ok () w3 := hst; clear hst)
      go_roundw
      case rel =>
        refine ⟨k + 1, HLt.out, by go_num, _, hown3, by rw [HTk.out]; exact GrpS.step3 HG.out yd yc yn HIx.out.1 HIx.out.2.1 HIm.out hat hoi (hoi.appended hown' (wf64 HIx.out.2.2)), ?_, ?_⟩
        · have e1 : Below w.heap.size w w1 := HB3.out.grown hg1 HB3.out.size (fun j hj => by injection hj with hj; omega)
          have e2 : Below w.heap.size w w2 := e1.grown hgrow e1.size (fun j hj => by have := (hoi.1.lt j hj).1; omega)
          exact e2.grown hg3 e2.size (fun j hj => by injection hj with hj; omega)
        · have := HZ.out; have := HZ3.out; have := hg1.size; have := hgrow.size; have := hg3.size; omega
      case measure => have := HLt.out; simp [RowKit.intOf]; omega
    · have hke : k = l.length := by omega
      subst hke
      have p1 : ¬ (l.length : Int) < (l.length : Int) := by omega
      rw [List.take_length] at hgr
      have HG2 := Lib.hid hgr
      obtain ⟨hom, hbb⟩ := groups_own hown
      have HIm : Hid (∀ y ∈ l, I64 y.d ∧ I64 y.c) := Lib.hid (fun y hy => ⟨(HI.out y hy).1, (HI.out y hy).2.1⟩)
      obtain ⟨wG, hwG⟩ : ∃ x, x = wr := ⟨_, rfl⟩
      subst hwG
      have HOm := Lib.hid hom
      have HLm := Lib.hid (hom.size_le)
      have HBb := Lib.hid hbel
      have HZs := Lib.hid hsz
      have HRd : Hid (∀ (u : Value) (y : DataW Unit × List MemPlace), rowElem wG (w.heap.size + 1) 3 .i64 u = some y → ∃ zs, wG.ownsInts (w.heap.size + 1) 3 .i64 u zs ∧ y.1 = rowDatum .i64 u zs) := Lib.hid (fun u y hy => by
        obtain ⟨zs, ho, e⟩ := rowElem_inv hy
        exact ⟨zs, ho, by rw [e]⟩)
      generalize hR : (rowElem (H := Unit) wG (w.heap.size + 1) 3 .i64) = R at *
      clear hown hgr hsz hlt hk HG HO HB HZ hR hbel hom
      go_wp2_with fail
      go_step3
      go_wp2_with (at_range; refine wpList_range_own _ rfl _ 106 rfl 108 83 smk_law Tryz.underlying106 R w.heap.size l.length D rfl HOm.out ?_; intro w2 hrg2 hg2 hs2)
      have HG2w := Lib.hid hg2
      have HS2 := Lib.hid hs2
      have HRg2 := Lib.hid hrg2
      clear hrg2 hg2 hs2
      go_frame
      go_loopw [8, 9] (fun vv ve wx => ve = .int .i64 0 ∧ ∃ (left : Lit → Bool) (cnt : Nat) (ps : List (Int × Int)), wx.ranges Tryz.prog 108 R w.heap.size wG.heap.size l.length D left cnt ∧ CamS D left ps ∧ ps.length + cnt ≤ Maps.size D ∧ (∀ t ∈ ps, inR (smDC l t.1 t.2) = true) ∧ OwnX flL 3 50 wx (wG.heap.size + 1) vv (netK l ps) ∧ Below wG.heap.size wG wx ∧ wG.heap.size + 1 ≤ wx.heap.size) (fun _ _ wx => wx.rangeLeft w.heap.size wG.heap.size)
      case atStart => exact ⟨rfl, _, _, [], HRg2.out, CamS.start D, by simp, fun t ht => (by cases ht), OwnX.nil _ _ _ _ _, ⟨HG2w.out.os, HG2w.out.tape, HG2w.out.output, HG2w.out.size, fun k hk => HG2w.out.block k hk (by simp)⟩, by have := HS2.out; omega⟩
      case round =>
        obtain ⟨rfl, left, cnt, ps, hrg, hC, hcs, hft, ho, hb, hz⟩ := hrel
        have HC := Lib.hid hC
        have HCs := Lib.hid hcs
        have HFt := Lib.hid hft
        have HOv := Lib.hid ho
        have HB := Lib.hid hb
        have HZ := Lib.hid hz
        have HRo := Lib.hid hrg
        clear hC hcs hft ho hb hz
        go_wp2_with (at_next; refine wpList_next_ranges _ rfl _ rfl 108 smk_law R (fun x : Int × Int => plv x.1 x.2) (fun u : Value => u) (fun key kl hk => by obtain ⟨x, hx, _⟩ := smk_inv hk; exact ⟨x, hx⟩) (fun v y hv => ⟨v, rfl⟩) w.heap.size wG.heap.size l.length _ _ _ rfl hrg ?_ ?_)
        · intro hc0 hl0
          have HSo := Lib.hid (sortfl HOv.out (by have := netK_len l ps; have := HCs.out; have := HLm.out; have := HL.out; omega))
          have HDn := Lib.hid (HC.out.done hl0 HG2.out HIm.out)
          have HBx := Lib.hid (onF HBb.out HB.out)
          have HOl := Lib.hid (fun k (e : u8.ownBlock = some k) => (HOv.out.lt k e).1)
          obtain ⟨va', vn, vc', hvn, rfl⟩ : ∃ a n c, n = (netK l ps).length ∧ u8 = Value.slice a n c := by
            obtain ⟨a, c, h⟩ := HOv.out.slice
            exact ⟨a, _, c, rfl, h⟩
          clear hrg hc0 hl0 hvn
          go_wp2_with fail
          refine HSo.out.mono ?_
          rintro e w4 ⟨rfl, m, hsm, hpm, hom, hgm⟩
          have HM := Lib.hid (And.intro hsm (And.intro hpm hom))
          have HB4 := Lib.hid (HBx.out.grown hgm HBx.out.size (fun k hk => by have := HOl.out k hk; have := HZs.out; omega))
          clear hsm hpm hom hgm HSo
          go_wp2_with fail
          go_ret2
          have hfit : FitsA l := fits_yes (fun i hi => HFt.out _ (HDn.out _ (mem_getD hi)))
          refine ⟨HB4.out, _, m, 0, rfl, HM.out.2.2.base (by have := HZs.out; omega), ?_, fun _ => ⟨rfl, net_of HC.out.nd HDn.out HM.out.2.1 HM.out.1⟩, fun h => absurd hfit h⟩
          rw [HM.out.2.1.length_eq]
          have := netK_len l ps
          have := HCs.out
          have := HLm.out
          omega
        · intro xd xc u kl yd yp w3 cnt2 hkey hlk hv hat hrg3 hlt hg3 hs3 hen
          obtain ⟨x', ex, hx1, hx2, rfl⟩ := smk_inv hkey
          obtain ⟨e1, e2⟩ : xd = x'.1 ∧ xc = x'.2 := by unfold plv at ex; simpa using ex
          obtain ⟨x1, x2⟩ := x'
          dsimp only at e1 e2 hx1 hx2 hkey hlk hat hrg3
          subst e1 e2
          obtain ⟨zs, hzs, hy⟩ := HRd.out u (yd, yp) hv
          dsimp only at hy
          have hzl : zs = amsF l xd xc := by rw [← HG2.out.at' xd xc hx1 hx2, hat .nil, hy, itS_row hzs]
          have hzn : zs.length ≤ 1000 := by
            rw [hzl]; unfold amsF
            rw [List.length_map]
            exact Nat.le_trans (List.length_filter_le _ _) HL.out
          have hB3 : Below wG.heap.size wG w3 := HB.out.grown hg3 HB.out.size (fun j hj => by injection hj with hj; omega)
          have hB4 := hB3.alloc hB3.size (.cells #[.int .i64 xd, .int .i64 xc] 108)
          have hzo : (w3.alloc (.cells #[.int .i64 xd, .int .i64 xc] 108)).ownsInts (w.heap.size + 1) 3 .i64 u zs := hzs.kept (grown_below hB4) (by cases u.ownBlock <;> simp)
          have hsum := sumS_any _ hzo (by omega)
          rw [show sumL zs = smDC l xd xc by rw [hzl]; rfl] at hsum
          have HSum := Lib.hid hsum
          have HB4 := Lib.hid hB4
          have HRg := Lib.hid (hrg3.alloc (.cells #[.int .i64 xd, .int .i64 xc] 108))
          have HC2 := Lib.hid (HC.out.step (t := (xd, xc)) ⟨hx1, hx2⟩ hlk)
          have HLt := Lib.hid hlt
          have HO4 := Lib.hid ((HOv.out.kept hg3 (by
            cases hob : u8.ownBlock with
            | none => exact .inl rfl
            | some g => exact .inr (fun e => by injection e with e; have := (HOv.out.lt g hob).1; omega))).grown (newF w3 (.cells #[.int .i64 xd, .int .i64 xc] 108)))
          have HZ4 : Hid (wG.heap.size + 1 ≤ (w3.alloc (.cells #[.int .i64 xd, .int .i64 xc] 108)).heap.size) := Lib.hid (by have := HZ.out; have := hg3.size; simp; omega)
          have y0 : (w3.alloc (.cells #[.int .i64 xd, .int .i64 xc] 108)).cell? ⟨w3.heap.size, 0, none⟩ = some (.int .i64 xd) := by rw [World.cell?_alloc_at _ _ _ _ rfl]; rfl
          have y1 : (w3.alloc (.cells #[.int .i64 xd, .int .i64 xc] 108)).cell? ⟨w3.heap.size, 1, none⟩ = some (.int .i64 xc) := by rw [World.cell?_alloc_at _ _ _ _ rfl]; rfl
          obtain ⟨ua, un, uc, hun, rfl⟩ : ∃ a n c, n = zs.length ∧ u = Value.slice a n c := by
            obtain ⟨a, c, h⟩ := own_slS hzs
            exact ⟨a, _, c, rfl, h⟩
          clear hkey hlk hv hat hrg3 hrg hlt hg3 hs3 ex hzs hy hzl hzn hB3 hB4 hzo hsum hun hx1 hx2
          unfold plv at hen ⊢
          by_cases hf : inR (smDC l xd xc) = true
          · rw [fitN_in hf, fitE_in hf] at HSum
            have HF2 : Hid (∀ t ∈ ps ++ [(xd, xc)], inR (smDC l t.1 t.2) = true) := Lib.hid (fun t ht => by
              rcases List.mem_append.1 ht with ht | ht
              · exact HFt.out t ht
              · rw [List.mem_singleton.1 ht]; exact hf)
            have HSn := Lib.hid (netK_snoc l ps (xd, xc))
            dsimp only at HSn
            clear hf
            go_wp2_with fail
            refine HSum.out.mono ?_
            rintro e w5 ⟨rfl, rfl⟩
            clear HSum hen
            by_cases hs0 : smDC l xd xc = 0
            · have hs1 : (smDC l xd xc != 0) = false := by rw [hs0]; rfl
              rw [if_pos hs0] at HSn
              clear hs0
              generalize smDC l xd xc = sm at *
              go_wp2_with fail
              go_roundw
              case rel => exact ⟨rfl, _, cnt2, ps ++ [(xd, xc)], HRg.out, HC2.out, by have := HLt.out; have := HCs.out; simp; omega, HF2.out, by rw [HSn.out]; exact HO4.out, HB4.out, HZ4.out⟩
              case measure => rw [HRg.out.left_eq, HRo.out.left_eq]; exact HLt.out
            · have hs1 : (smDC l xd xc != 0) = true := bne_iff_ne.2 hs0
              rw [if_neg hs0] at HSn
              clear hs0
              generalize smDC l xd xc = sm at *
              generalize w3.alloc (.cells #[.int .i64 xd, .int .i64 xc] 108) = w4 at *
              go_wp2_with (at_builtin; refine wpList_append_x (E := flL) (k := 3) (fun _ => rfl) (by decide) flL_one Tryz.underlying30 infoFl rfl (by decide) rfl _ _ rfl (wG.heap.size + 1) _ (netK l ps) rfl (HO4.out.grown (newF w4 _)) _ [⟨xd, xc, sm⟩] rfl (rowx_new (E := flL) (k := 3) (fun _ => rfl) w4 ⟨xd, xc, sm⟩ #[.int .i64 xd, .int .i64 xc, .int .i64 sm] (by rfl) 50 _ rfl) (by have := netK_len l ps; have := HCs.out; have := HLm.out; have := HL.out; simp; omega) (Nat.le_trans HZ4.out (by simp)) ?_; intro v5 w5 ho5 hg5 hat5; have HO5 := Lib.hid ho5; have HB5 : Hid (Below wG.heap.size wG w5) := Lib.hid (Below.grown (Below.alloc HB4.out HB4.out.size _) hg5 (Nat.le_trans HB4.out.size (by simp)) (fun k hk => by have := (HO4.out.lt k hk).1; omega)); have HR5 := Lib.hid ((HRg.out.alloc (.cells #[.int .i64 xd, .int .i64 xc, .int .i64 sm] 50)).kept hg5 (fun e => by have := (HO4.out.lt _ e.symm).1; have := HZs.out; omega) (fun e => by have := (HO4.out.lt _ e.symm).1; omega)); have HZ5 : Hid (wG.heap.size + 1 ≤ w5.heap.size) := Lib.hid (Nat.le_trans HZ4.out (Nat.le_trans (show w4.heap.size ≤ (w4.alloc _).heap.size by simp) hg5.size)); clear ho5 hg5 hat5)
              go_roundw
              case rel => exact ⟨rfl, _, cnt2, ps ++ [(xd, xc)], HR5.out, HC2.out, by have := HLt.out; have := HCs.out; simp; omega, HF2.out, by rw [HSn.out]; exact HO5.out, HB5.out, HZ5.out⟩
              case measure => rw [HR5.out.left_eq, HRo.out.left_eq]; exact HLt.out
          · have hf' : inR (smDC l xd xc) = false := by cases h : inR (smDC l xd xc) <;> simp_all
            rw [fitN_out hf', fitE_out hf'] at HSum
            have HNf : Hid (¬ FitsA l) := Lib.hid (fun h => hf (h xd xc))
            have HBx := Lib.hid (onF HBb.out HB4.out)
            clear hf hf'
            go_wp2_with fail
            refine HSum.out.mono ?_
            rintro e w5 ⟨rfl, rfl⟩
            clear HSum hen y0 y1
            go_wp2_with fail
            go_ret2
            exact ⟨HBx.out, _, [], 11, rfl, OwnX.nil _ _ _ _ _, Nat.zero_le _, fun h => absurd h HNf.out, fun _ => ⟨rfl, rfl⟩⟩

end Go.Proofs.YtgeneoamngfomaaGreatDoor

namespace Go.Proofs.YtgeneoamngfomaaGreatDoor
open Go.RowKit Go.Lib Go.Maps Go.ChangeShapes
set_option linter.unusedVariables false
set_option linter.unusedSimpArgs false

/-- Is a flow the first one of its kind, as far as one has looked? -/
def fstK (l : List Flw) (i k : Nat) : Bool := ((l.take k).take i).all fun y => !decide (y.d = (l.getD i default).d ∧ y.c = (l.getD i default).c)
theorem fstK_zero (l : List Flw) (i : Nat) : fstK l i 0 = true := by simp [fstK]
theorem fstK_end (l : List Flw) (i : Nat) : fstK l i l.length = fstF l i := by unfold fstK fstF; rw [List.take_length]
theorem fstK_late {l : List Flw} {i k : Nat} (h : i ≤ k) : fstK l i (k + 1) = fstK l i k := by
  unfold fstK
  rw [List.take_take, List.take_take, Nat.min_eq_left (by omega), Nat.min_eq_left h]
theorem fstK_early {l : List Flw} {i k : Nat} (h : k < i) (hk : k < l.length) : fstK l i (k + 1) = (fstK l i k && !decide ((l.getD k default).d = (l.getD i default).d ∧ (l.getD k default).c = (l.getD i default).c)) := by
  unfold fstK
  rw [List.take_take, List.take_take, Nat.min_eq_right (by omega), Nat.min_eq_right (by omega), take_flD hk, List.all_append]
  simp
theorem fstK_diff {l : List Flw} {i k : Nat} (hk : k < l.length) (h : ¬ ((l.getD k default).d = (l.getD i default).d ∧ (l.getD k default).c = (l.getD i default).c)) : fstK l i (k + 1) = fstK l i k := by
  by_cases c : i ≤ k
  · exact fstK_late c
  · rw [fstK_early (by omega) hk, decide_eq_false h]; simp
theorem fstK_same {l : List Flw} {i k : Nat} (hk : k < l.length) (h : (l.getD k default).d = (l.getD i default).d ∧ (l.getD k default).c = (l.getD i default).c) : fstK l i (k + 1) = (fstK l i k && decide (i ≤ k)) := by
  by_cases c : i ≤ k
  · rw [fstK_late c, decide_eq_true c]; simp
  · rw [fstK_early (by omega) hk, decide_eq_true h, decide_eq_false c]; rfl
def inL (n : Int) : List Value := [.int .i64 n]
theorem inL_one (t : Int) : ∀ u ∈ inL t, u.oneCell' = true := fun u hu => by rw [List.mem_singleton.1 hu]; rfl
theorem slf_own {w : World} {base : Nat} {v : Value} {m : List Int} (h : OwnX inL 1 3 w base v m) : ∃ a c, v = .slice a m.length c ∧ SLF w a m := by
  by_cases h0 : 0 < m.length
  · obtain ⟨g, cap, e, _, _, _, hc⟩ := h.at (E := inL) (k := 1) (fun _ => rfl) h0
    have hr : Row w g 0 m := fun t ht => by
      have := hc t ht 0 _ (by decide) rfl
      rw [Nat.zero_add]
      simpa using this
    exact ⟨_, _, e, .inr ⟨g, 0, rfl, ltF (hr 0 h0), hr⟩⟩
  · obtain ⟨a, c, e⟩ := h.slice
    exact ⟨a, c, e, .inl (List.length_eq_zero_iff.1 (by omega))⟩
/-- One number appended to numbers of the call's own. -/
theorem wpList_append_int1 {w : World} {ops : Array Oper} {rest : List Oper} {o : Oper} {a : Act} {Q : Exit → Act → World → Prop} (hgd : o.guard = none) (s x : Operand)
    (ho : o.op = .call { callee := .builtin .append, args := #[s, x], argTypes := #[83, 83] })
    (base : Nat) (v : Value) (t : List Int) (hs : a.eval s = v) (hown : OwnX inL 1 3 w base v t) (n : Int) (b : Nat) (hx : a.eval x = .slice (some ⟨b, 0, none⟩) 1 1) (hc : w.cell? ⟨b, 0, none⟩ = some (.int .i64 n))
    (hlen : t.length + 1 ≤ 100000) (hbase : base ≤ w.heap.size)
    (h : ∀ v' w', OwnX inL 1 3 w' base v' (t ++ [n]) → w.grownBy w' v.ownBlock → wpList Tryz.prog ops Q rest (a.put o.dst v') w') : wpList Tryz.prog ops Q (o :: rest) a w := by
  obtain ⟨i0, hi0, hz0, hz1, hz2⟩ := info_parts Tryz.infoI
  refine wpList_append_own_at _ hgd s x 83 ho base 3 i0 _ 1 8 Tryz.underlying83 hi0 hz0 hz1 hz2 rfl (by decide) v t.length (t.flatMap inL) hs hown ⟨b, 0, none⟩ 1 1 [.int .i64 n] hx rfl (fun j u hj => ?_) (inL_one n) (by unfold maxLen; omega) (by omega) hbase ?_
  · have hj0 : j = 0 := by have := (List.getElem?_eq_some_iff.1 hj).1; simpa using this
    subst hj0
    have hu : u = .int .i64 n := by simpa using hj.symm
    subst hu
    exact hc
  · intro v' w' h1 h2 _ h3
    refine h v' w' ?_ h2
    unfold OwnX
    rw [List.length_append, List.flatMap_append]; exact h1
theorem amsF_len (l : List Flw) (d c : Int) : (amsF l d c).length ≤ l.length := by
  unfold amsF
  rw [List.length_map]
  exact List.length_filter_le _ _
theorem amsF_in {l : List Flw} (hi : ∀ x ∈ l, I64 x.n) (d c : Int) : InI (amsF l d c) := fun t => by
  rw [List.getD_eq_getElem?_getD]
  cases hx : (amsF l d c)[t]? with
  | none => exact ⟨by decide, by decide⟩
  | some x =>
    have := List.mem_of_getElem? hx
    unfold amsF at this
    obtain ⟨y, hy, rfl⟩ := List.mem_map.1 this
    exact hi y (List.mem_filter.1 hy).1
theorem fits_inR (z : Int) : FitsZ z ↔ inR z = true := by unfold FitsZ inR; rw [decide_eq_true_iff]
set_option maxRecDepth 100000 in
set_option maxHeartbeats 2000000 in
theorem rnet_any (w : World) (l : List Flw) (hl : l.length ≤ 900) (hi : ∀ x ∈ l, I64 x.d ∧ I64 x.c ∧ I64 x.n) (v : Value) (h : RowX flL 3 w v l) :
    Calls Tryz.prog 16 #[v] w fun e w' => Below w.heap.size w w' ∧ ∃ v' m, OwnX flL 3 50 w' w.heap.size v' m ∧ (FitsA l → e = .returned (.tuple #[v', .bool true]) ∧ NetS l m) ∧ (¬ FitsA l → e = .returned (.tuple #[v', .bool false])) := by
  obtain ⟨va, vc, rfl⟩ := h.slice
  have HRow := Lib.hid h
  have HI := Lib.hid hi
  have HL := Lib.hid hl
  have HIn := Lib.hid (fun d c => amsF_in (fun x hx => (hi x hx).2.2) d c)
  clear h hi hl
  go_enter Tryz.func16, Tryz.ntmps16
  go_wp2_with fail
  go_loopw [4, 5] (fun vo vi wx => ∃ i : Nat, i ≤ l.length ∧ vi = .int .i64 (i : Nat) ∧ OwnX flL 3 50 wx w.heap.size vo (netR l i) ∧ (∀ j, j < i → inR (smDC l (l.getD j default).d (l.getD j default).c) = true) ∧ Below w.heap.size w wx) (fun _ vi _ => l.length - (RowKit.intOf vi).toNat)
  case atStart => exact ⟨0, Nat.zero_le _, rfl, OwnX.nil _ _ _ _ _, fun j hj => absurd hj (Nat.not_lt_zero j), Below.refl _ _⟩
  case round =>
    obtain ⟨i, hi, rfl, ho, hft, hb⟩ := hrel
    have HO := Lib.hid ho
    have HFt := Lib.hid hft
    have HB := Lib.hid hb
    by_cases hlt : i < l.length
    · have p0 : (0 : Int) ≤ (i : Int) := by omega
      have p1 : (i : Int) < (l.length : Int) := by omega
      have HLt := Lib.hid hlt
      obtain ⟨ga, oa, ca1, hv, hf1, hf2, hTa⟩ : ∃ g o cap, Value.slice va l.length vc = .slice (some ⟨g, o, none⟩) l.length cap ∧ l.length ≤ cap ∧ cap ≤ 9223372036854775807 ∧ ∀ j, j < l.length → ∀ i c, i < 3 → (flL (l.getD j default))[i]? = some c → w.cell? ⟨g, o + j * 3 + i, none⟩ = some c := by
        rcases HRow.out with ⟨e, _⟩ | ⟨_, g, o, cap, h1, h2, h3, h4⟩
        · rw [e] at hlt; exact absurd hlt (Nat.not_lt_zero _)
        · exact ⟨g, o, cap, h1, h2, h3, h4⟩
      injection hv with hv1 _ hv3
      subst hv1 hv3
      have HT : Hid (∀ j, j < l.length → ∀ wx, Below w.heap.size w wx → wx.cell? ⟨ga, oa + j * 3, none⟩ = some (.int .i64 (l.getD j default).d) ∧ wx.cell? ⟨ga, oa + j * 3 + 1, none⟩ = some (.int .i64 (l.getD j default).c) ∧ wx.cell? ⟨ga, oa + j * 3 + 2, none⟩ = some (.int .i64 (l.getD j default).n)) := Lib.hid (fun j hj wx hb => ⟨keepF hb (hTa j hj 0 _ (by omega) rfl), keepF hb (hTa j hj 1 _ (by omega) rfl), keepF hb (hTa j hj 2 _ (by omega) rfl)⟩)
      obtain ⟨la, ln, lc, hln, rfl⟩ : ∃ a n c, n = (netR l i).length ∧ u4 = Value.slice a n c := by
        obtain ⟨a, c, h⟩ := ho.slice
        exact ⟨a, _, c, rfl, h⟩
      obtain ⟨wo, hwo⟩ : ∃ x, x = wr := ⟨_, rfl⟩
      subst hwo
      clear hTa hlt ho hft hb hln
      go_wp2_with fail
      go_loopw [6, 7, 8] (fun vf vp vk wx => ∃ k : Nat, k ≤ l.length ∧ vk = .int .i64 (k : Nat) ∧ vf = .bool (fstK l i k) ∧ OwnX inL 1 3 wx wo.heap.size vp (amsF (l.take k) (l.getD i default).d (l.getD i default).c) ∧ Below wo.heap.size wo wx) (fun _ _ vk _ => l.length - (RowKit.intOf vk).toNat)
      case atStart => exact ⟨0, Nat.zero_le _, rfl, by rw [fstK_zero], OwnX.nil _ _ _ _ _, Below.refl _ _⟩
      case round =>
        obtain ⟨k, hk, rfl, rfl, ho, hb⟩ := hrel
        have HO2 := Lib.hid ho
        have HB2 := Lib.hid hb
        by_cases hlt : k < l.length
        · have q0 : (0 : Int) ≤ (k : Int) := by omega
          have q1 : (k : Int) < (l.length : Int) := by omega
          have HLk := Lib.hid hlt
          obtain ⟨x0, x1, x2⟩ := HT.out k hlt wr (onF HB.out hb)
          obtain ⟨z0, z1, _⟩ := HT.out i HLt.out wr (onF HB.out hb)
          have HAl : Hid ((amsF (l.take k) (l.getD i default).d (l.getD i default).c).length ≤ l.length) := Lib.hid (Nat.le_trans (amsF_len _ _ _) (by rw [List.length_take]; exact Nat.min_le_right _ _))
          have HAs := Lib.hid (amsF_snoc (l.take k) (l.getD k default) (l.getD i default).d (l.getD i default).c)
          rw [← take_flD hlt] at HAs
          have HFs := Lib.hid (fun h => fstK_same (l := l) (i := i) hlt h)
          have HFd := Lib.hid (fun h => fstK_diff (l := l) (i := i) hlt h)
          obtain ⟨va', vn, vc', hvn, rfl⟩ : ∃ a n c, n = (amsF (l.take k) (l.getD i default).d (l.getD i default).c).length ∧ u7 = Value.slice a n c := by
            obtain ⟨a, c, h⟩ := ho.slice
            exact ⟨a, _, c, rfl, h⟩
          have HNc : Hid (∀ wx : World, (wx.alloc (.cells #[.int .i64 (l.getD k default).n] 3)).cell? ⟨wx.heap.size, 0, none⟩ = some (.int .i64 (l.getD k default).n)) := Lib.hid (fun wx => by rw [World.cell?_alloc_at _ _ _ _ rfl]; rfl)
          clear hlt ho hb hvn
          generalize (l.getD k default).n = yn at *
          generalize (l.getD k default).d = yd at *
          generalize (l.getD k default).c = yc at *
          generalize (l.getD i default).d = zd at *
          generalize (l.getD i default).c = zc at *
          generalize fstK l i k = fb at *
          by_cases hs : yd = zd ∧ yc = zc
          · have HFk := Lib.hid (HFs.out hs)
            have HAm := HAs
            rw [if_pos hs] at HAm
            obtain ⟨e1, e2⟩ := hs
            subst e1 e2
            clear HFs HFd HAs
            cases fb with
            | false =>
              rw [Bool.false_and] at HFk
              go_wp2_with fail
              go_quiet (fail)
              have HOq := Lib.hid (HO2.out.grown (below_drewE wr nq))
              have HBq := Lib.hid (onF HB2.out (below_drewE wr nq))
              have x2q := keepF (below_drewE wr nq) x2
              clear x0 x1 x2 z0 z1
              generalize wr.drewN nq = wq at *
              go_wp2_with (at_builtin; refine wpList_append_int1 rfl _ _ rfl wo.heap.size _ (amsF (l.take k) yd yc) rfl (HOq.out.grown (newF wq _)) yn _ rfl (HNc.out wq) (by have := HAl.out; have := HL.out; omega) (Nat.le_trans HBq.out.size (by simp)) ?_; intro v5 w5 ho5 hg5; have HO5 := Lib.hid ho5; have HB5 : Hid (Below wo.heap.size wo w5) := Lib.hid (Below.grown (Below.alloc HBq.out HBq.out.size _) hg5 (Nat.le_trans HBq.out.size (by simp)) (fun k hk => (HOq.out.lt k hk).1)); clear ho5 hg5)
              go_roundw
              case rel => exact ⟨k + 1, HLk.out, by go_num, by rw [HFk.out], by rw [HAm.out]; exact HO5.out, HB5.out⟩
              case measure => have := HLk.out; simp [RowKit.intOf]; omega
            | true =>
              rw [Bool.true_and] at HFk
              by_cases hik : i ≤ k
              · have q2 : (i : Int) ≤ (k : Int) := by omega
                rw [decide_eq_true hik] at HFk
                clear hik
                go_wp2_with fail
                go_quiet (fail)
                have HOq := Lib.hid (HO2.out.grown (below_drewE wr nq))
                have HBq := Lib.hid (onF HB2.out (below_drewE wr nq))
                have x2q := keepF (below_drewE wr nq) x2
                clear x0 x1 x2 z0 z1
                generalize wr.drewN nq = wq at *
                go_wp2_with (at_builtin; refine wpList_append_int1 rfl _ _ rfl wo.heap.size _ (amsF (l.take k) yd yc) rfl (HOq.out.grown (newF wq _)) yn _ rfl (HNc.out wq) (by have := HAl.out; have := HL.out; omega) (Nat.le_trans HBq.out.size (by simp)) ?_; intro v5 w5 ho5 hg5; have HO5 := Lib.hid ho5; have HB5 : Hid (Below wo.heap.size wo w5) := Lib.hid (Below.grown (Below.alloc HBq.out HBq.out.size _) hg5 (Nat.le_trans HBq.out.size (by simp)) (fun k hk => (HOq.out.lt k hk).1)); clear ho5 hg5)
                go_roundw
                case rel => exact ⟨k + 1, HLk.out, by go_num, by rw [HFk.out], by rw [HAm.out]; exact HO5.out, HB5.out⟩
                case measure => have := HLk.out; simp [RowKit.intOf]; omega
              · have q2 : ¬ (i : Int) ≤ (k : Int) := by omega
                rw [decide_eq_false hik] at HFk
                clear hik
                go_wp2_with fail
                go_quiet (fail)
                have HOq := Lib.hid (HO2.out.grown (below_drewE wr nq))
                have HBq := Lib.hid (onF HB2.out (below_drewE wr nq))
                have x2q := keepF (below_drewE wr nq) x2
                clear x0 x1 x2 z0 z1
                generalize wr.drewN nq = wq at *
                go_wp2_with (at_builtin; refine wpList_append_int1 rfl _ _ rfl wo.heap.size _ (amsF (l.take k) yd yc) rfl (HOq.out.grown (newF wq _)) yn _ rfl (HNc.out wq) (by have := HAl.out; have := HL.out; omega) (Nat.le_trans HBq.out.size (by simp)) ?_; intro v5 w5 ho5 hg5; have HO5 := Lib.hid ho5; have HB5 : Hid (Below wo.heap.size wo w5) := Lib.hid (Below.grown (Below.alloc HBq.out HBq.out.size _) hg5 (Nat.le_trans HBq.out.size (by simp)) (fun k hk => (HOq.out.lt k hk).1)); clear ho5 hg5)
                go_roundw
                case rel => exact ⟨k + 1, HLk.out, by go_num, by rw [HFk.out, decide_eq_false (show ¬ i ≤ k by omega)], by rw [HAm.out]; exact HO5.out, HB5.out⟩
                case measure => have := HLk.out; simp [RowKit.intOf]; omega
          · have HFk := Lib.hid (HFd.out hs)
            have HAm := HAs
            rw [if_neg hs] at HAm
            clear HFs HFd HAs HNc
            by_cases e1 : yd = zd
            · have e2 : (yc == zc) = false := beq_false_of_ne (fun e => hs ⟨e1, e⟩)
              subst e1
              clear hs
              go_wp2_with fail
              go_quiet (fail)
              have HOq := Lib.hid (HO2.out.grown (below_drewE wr nq))
              have HBq := Lib.hid (onF HB2.out (below_drewE wr nq))
              have x2q := keepF (below_drewE wr nq) x2
              clear x0 x1 x2 z0 z1
              generalize wr.drewN nq = wq at *
              go_wp2_with fail
              go_roundw
              case rel => exact ⟨k + 1, HLk.out, by go_num, by rw [HFk.out], by rw [HAm.out]; exact HOq.out, HBq.out⟩
              case measure => have := HLk.out; simp [RowKit.intOf]; omega
            · have e2 : (yd == zd) = false := beq_false_of_ne e1
              clear hs e1
              go_wp2_with fail
              go_quiet (fail)
              have HOq := Lib.hid (HO2.out.grown (below_drewE wr nq))
              have HBq := Lib.hid (onF HB2.out (below_drewE wr nq))
              have x2q := keepF (below_drewE wr nq) x2
              clear x0 x1 x2 z0 z1
              generalize wr.drewN nq = wq at *
              go_wp2_with fail
              go_roundw
              case rel => exact ⟨k + 1, HLk.out, by go_num, by rw [HFk.out], by rw [HAm.out]; exact HOq.out, HBq.out⟩
              case measure => have := HLk.out; simp [RowKit.intOf]; omega
        · have hke : k = l.length := by omega
          subst hke
          have q1 : ¬ (l.length : Int) < (l.length : Int) := by omega
          rw [List.take_length] at ho
          obtain ⟨va', vc', rfl, hslf⟩ := slf_own ho
          have HSl := Lib.hid hslf
          have HSu := Lib.hid (rsum_any (amsF l (l.getD i default).d (l.getD i default).c) va' vc' wr hslf (HIn.out _ _) (by have := amsF_len l (l.getD i default).d (l.getD i default).c; have := HL.out; omega))
          have HZl : Hid ((sumL (amsF l (l.getD i default).d (l.getD i default).c)).natAbs < 2 ^ 1000) := Lib.hid (sum_lim (HIn.out _ _) (by have := amsF_len l (l.getD i default).d (l.getD i default).c; have := HL.out; omega))
          rw [fstK_end]
          obtain ⟨sm, hsm⟩ : ∃ sm, sm = smDC l (l.getD i default).d (l.getD i default).c := ⟨_, rfl⟩
          have hsm2 : sumL (amsF l (l.getD i default).d (l.getD i default).c) = sm := hsm.symm
          rw [hsm2] at HSu HZl
          have HSm := Lib.hid hsm
          obtain ⟨pn, hpn⟩ : ∃ n, n = (amsF l (l.getD i default).d (l.getD i default).c).length := ⟨_, rfl⟩
          rw [← hpn] at HSu ⊢
          have HT2 := Lib.hid (fun wx hb => HT.out i HLt.out wx hb)
          obtain ⟨nr, hnr⟩ : ∃ nr, nr = netR l (i + 1) := ⟨_, rfl⟩
          have HNr := Lib.hid hnr
          rw [netR, ← hsm] at hnr
          have HNr2 := Lib.hid hnr
          have HNl : Hid ((netR l i).length ≤ 1000) := Lib.hid (by have := netR_len l i; have := HL.out; have := HLt.out; omega)
          clear ho hb hslf hk HO2 hsm2 hsm hpn HT hnr
          go_wp2_with fail
          refine HSu.out.mono ?_
          rintro e w5 ⟨⟨v5, rfl, hv5⟩, hb5⟩
          have HIt := Lib.hid (rint_any sm v5 w5 hv5 HZl.out)
          have HB5 := Lib.hid (onF HB2.out hb5)
          clear hv5 hb5 HSu HZl
          go_wp2_with fail
          refine HIt.out.mono ?_
          rintro e w6 ⟨hy, hn, hb6⟩
          have HB6 := Lib.hid (onF HB5.out hb6)
          have HO6 := Lib.hid (HO.out.grown (onF HB5.out hb6))
          clear hb6 HIt HB5
          by_cases hf : FitsZ sm
          · obtain rfl := hy hf
            have HF2 : Hid (∀ j, j < i + 1 → inR (smDC l (l.getD j default).d (l.getD j default).c) = true) := Lib.hid (fun j hj => by
              by_cases e : j = i
              · rw [e, ← HSm.out]; exact (fits_inR _).1 hf
              · exact HFt.out j (by omega))
            clear hy hn hf HFt
            obtain ⟨z0, z1, _⟩ := HT2.out w6 (onF HB.out HB6.out)
            have HPt := Lib.hid (fun (x : Flw) => put9_any w6.drew (netR l i) HNl.out _ (OwnX.row (E := flL) (k := 3) (fun _ => rfl) (HO6.out.grown ⟨rfl, rfl, rfl, Nat.le_refl _, fun _ _ => rfl⟩)) x)
            generalize (l.getD i default).d = zd at *
            generalize (l.getD i default).c = zc at *
            generalize fstF l i = fb at *
            cases fb with
            | false =>
              rw [if_neg (fun h => by cases h.1)] at HNr2
              clear z0 z1
              go_wp2_with fail
              go_roundw
              case rel => exact ⟨i + 1, HLt.out, by go_num, by rw [← HNr.out, HNr2.out]; exact HO6.out, HF2.out, onF HB.out HB6.out⟩
              case measure => have := HLt.out; simp [RowKit.intOf]; omega
            | true =>
              by_cases hs0 : sm = 0
              · rw [if_neg (fun h => h.2 hs0)] at HNr2
                have hs1 : (sm != 0) = false := by rw [hs0]; rfl
                clear z0 z1 hs0
                go_wp2_with fail
                go_roundw
                case rel => exact ⟨i + 1, HLt.out, by go_num, by rw [← HNr.out, HNr2.out]; exact HO6.out, HF2.out, onF HB.out HB6.out⟩
                case measure => have := HLt.out; simp [RowKit.intOf]; omega
              · rw [if_pos ⟨rfl, hs0⟩] at HNr2
                have hs1 : (sm != 0) = true := bne_iff_ne.2 hs0
                clear hs0
                have HP1 := Lib.hid (HPt.out ⟨zd, zc, sm⟩)
                dsimp only at HP1
                clear HPt
                go_wp2_with fail
                go_region_with (go_at_call 34; (with_reducible refine HP1.out.mono ?_); rintro e w7 ⟨v7, rfl, ho7, hb7⟩; have HO7 : Hid (OwnX flL 3 50 w7 w.heap.size v7 (netR l (i + 1))) := Lib.hid (by rw [← HNr.out, HNr2.out]; exact ho7.base (onF HB.out HB6.out).size); have HB7 := Lib.hid (onF (onF HB.out HB6.out) (undrewB hb7)); clear ho7 hb7)
                all_goals go_wp2_with fail
                all_goals go_roundw
                case' rel => exact ⟨i + 1, HLt.out, by go_num, HO7.out, HF2.out, HB7.out⟩
                all_goals first | (exact ⟨i + 1, HLt.out, by go_num, HO7.out, HF2.out, HB7.out⟩) | (have := HLt.out; simp [RowKit.intOf]; omega)
          · obtain rfl := hn hf
            have HNf : Hid (¬ FitsA l) := Lib.hid (fun h => hf ((fits_inR _).2 (by rw [HSm.out]; exact h _ _)))
            have HBz := Lib.hid (onF HB.out HB6.out)
            clear hy hn hf HFt
            go_wp2_with fail
            go_ret2
            exact ⟨HBz.out, .slice none 0 0, [], OwnX.nil _ _ _ _ _, fun h => absurd h HNf.out, fun _ => rfl⟩
    · have hie : i = l.length := by omega
      subst hie
      have p1 : ¬ (l.length : Int) < (l.length : Int) := by omega
      obtain ⟨la, ln, lc, hln, rfl⟩ : ∃ a n c, n = (netR l l.length).length ∧ u4 = Value.slice a n c := by
        obtain ⟨a, c, h⟩ := ho.slice
        exact ⟨a, _, c, rfl, h⟩
      clear hlt hi ho hb hln hft
      go_wp2_with fail
      go_ret2
      have hfit : FitsA l := fits_yes HFt.out
      exact ⟨HB.out, _, _, HO.out, fun _ => ⟨rfl, netR_net l⟩, fun h => absurd hfit h⟩

end Go.Proofs.YtgeneoamngfomaaGreatDoor

namespace Go.Proofs.YtgeneoamngfomaaGreatDoor
open Go.RowKit Go.Lib Go.Maps Go.ChangeShapes
set_option linter.unusedVariables false
set_option linter.unusedSimpArgs false

theorem smDC_has {l : List Flw} {d c : Int} (h : smDC l d c ≠ 0) : ∃ y ∈ l, y.d = d ∧ y.c = c := by
  refine Classical.byContradiction fun k => h (smDC_none (fun x hx e => k ⟨x, hx, e⟩))
theorem NetS.i64 {l m : List Flw} (h : NetS l m) (hf : FitsA l) (hi : ∀ x ∈ l, I64 x.d ∧ I64 x.c ∧ I64 x.n) : ∀ x ∈ m, I64 x.d ∧ I64 x.c ∧ I64 x.n := fun x hx => by
  obtain ⟨h1, h2⟩ := (h.mem x).1 hx
  obtain ⟨y, hy, e1, e2⟩ := smDC_has (l := l) (d := x.d) (c := x.c) (by rw [← h2]; exact h1)
  have := hi y hy
  refine ⟨e1 ▸ this.1, e2 ▸ this.2.1, ?_⟩
  have hr := hf x.d x.c
  rw [← h2] at hr
  unfold inR at hr
  have h3 := of_decide_eq_true hr
  exact h3
def rotN (fr : Int) (n : Nat) : Nat := ((fr.tmod n + n).tmod n).toNat
theorem rotN_ok (fr : Int) {n : Nat} (hn : 0 < n) : (fr.tmod n + n).tmod n = ((rotN fr n : Nat) : Int) ∧ rotN fr n < n ∧ -(n : Int) < fr.tmod n ∧ fr.tmod n < n := by
  have h0 : (0 : Int) < (n : Int) := by omega
  have h1 : -(n : Int) < fr.tmod n := by
    by_cases c : 0 ≤ fr
    · have := Int.tmod_nonneg (n : Int) c
      omega
    · have e : fr = -(-fr) := by omega
      rw [e, Int.neg_tmod]
      have := Int.tmod_lt_of_pos (-fr) h0
      omega
  have h2 : fr.tmod n < n := Int.tmod_lt_of_pos fr h0
  have h3 : 0 ≤ (fr.tmod n + n).tmod n := Int.tmod_nonneg _ (by omega)
  have h4 : (fr.tmod n + n).tmod n < n := Int.tmod_lt_of_pos _ h0
  unfold rotN
  exact ⟨by omega, by omega, h1, h2⟩
theorem rot_mod (k i n : Nat) : ((k : Int) + (i : Int)).tmod (n : Int) = (((k + i) % n : Nat) : Int) := by
  rw [Int.tmod_eq_emod_of_nonneg (by omega)]
  rfl
set_option maxRecDepth 100000 in
set_option maxHeartbeats 2000000 in
theorem nets_walk (w : World) (l : List Flw) (hi : ∀ x ∈ l, I64 x.d ∧ I64 x.c ∧ I64 x.n) (v : Value) (h : RowX flL 3 w v l) (fr : Int) (C : KndW w) :
    Calls Tryz.prog 4 #[v, .int .i64 fr] w fun e w' => e = .returned (.bool true) ∧ Below w.heap.size w w' := by
  obtain ⟨va, vc, rfl⟩ := h.slice
  have HAw := Lib.hid (fun (w' : World) (hb : Below w.heap.size w w') => awake9_any w' (C.keep hb))
  have HRow := Lib.hid h
  have HI := Lib.hid hi
  clear h hi C
  by_cases l0 : (60 : Int) < (l.length : Int)
  · go_enter Tryz.func4, Tryz.ntmps4
    go_wp2_with fail
    refine (HAw.out _ (Below.refl _ _)).mono ?_
    rintro e w3 ⟨rfl, hb3⟩
    have HB3 := Lib.hid hb3
    clear hb3
    go_wp2_with fail
    go_ret
    exact ⟨rfl, HB3.out⟩
  have HL := Lib.hid (show l.length ≤ 60 by omega)
  go_enter Tryz.func4, Tryz.ntmps4
  go_wp2_with fail
  go_loopw [6, 7] (fun vt vi wx => ∃ i : Nat, i ≤ l.length ∧ vi = .int .i64 (i : Nat) ∧ OwnX flL 3 50 wx w.heap.size vt ((rotF l (rotN fr l.length)).take i) ∧ Below w.heap.size w wx) (fun _ vi _ => l.length - (RowKit.intOf vi).toNat)
  case atStart => exact ⟨0, Nat.zero_le _, rfl, OwnX.nil _ _ _ _ _, Below.refl _ _⟩
  case round =>
    obtain ⟨i, hi, rfl, ho, hb⟩ := hrel
    have HO := Lib.hid ho
    have HB := Lib.hid hb
    by_cases hlt : i < l.length
    · have p0 : (0 : Int) ≤ (i : Int) := by omega
      have p1 : (i : Int) < (l.length : Int) := by omega
      have HLt := Lib.hid hlt
      obtain ⟨ga, oa, ca1, hv, hf1, hf2, hTa⟩ : ∃ g o cap, Value.slice va l.length vc = .slice (some ⟨g, o, none⟩) l.length cap ∧ l.length ≤ cap ∧ cap ≤ 9223372036854775807 ∧ ∀ j, j < l.length → ∀ i c, i < 3 → (flL (l.getD j default))[i]? = some c → w.cell? ⟨g, o + j * 3 + i, none⟩ = some c := by
        rcases HRow.out with ⟨e, _⟩ | ⟨_, g, o, cap, h1, h2, h3, h4⟩
        · rw [e] at hlt; exact absurd hlt (Nat.not_lt_zero _)
        · exact ⟨g, o, cap, h1, h2, h3, h4⟩
      injection hv with hv1 _ hv3
      subst hv1 hv3
      obtain ⟨n1, n2, n3, n4⟩ := rotN_ok fr (n := l.length) (by omega)
      have hm := rot_mod (rotN fr l.length) i l.length
      have htk := take_rot (l := l) n2 hlt
      obtain ⟨k, hk⟩ : ∃ k, k = rotN fr l.length := ⟨_, rfl⟩
      rw [← hk] at n1 n2 hm htk
      obtain ⟨j, hj⟩ : ∃ j, j = (k + i) % l.length := ⟨_, rfl⟩
      rw [← hj] at hm htk
      have hjl : j < l.length := by rw [hj]; exact Nat.mod_lt _ (by omega)
      have k0 : wr.cell? ⟨ga, oa + j * 3, none⟩ = some (.int .i64 (l.getD j default).d) := keepF hb (hTa j hjl 0 _ (by omega) rfl)
      have k1 : wr.cell? ⟨ga, oa + j * 3 + 1, none⟩ = some (.int .i64 (l.getD j default).c) := keepF hb (hTa j hjl 1 _ (by omega) rfl)
      have k2 : wr.cell? ⟨ga, oa + j * 3 + 2, none⟩ = some (.int .i64 (l.getD j default).n) := keepF hb (hTa j hjl 2 _ (by omega) rfl)
      have HTk := Lib.hid htk
      obtain ⟨a, ha⟩ : ∃ a, fr.tmod (l.length : Int) = a := ⟨_, rfl⟩
      rw [ha] at n1 n3 n4
      obtain ⟨b, hb0⟩ : ∃ b, wrap64 (a + (l.length : Int)) = b := ⟨_, rfl⟩
      rw [IntWalk.wrap64_in _ (by have := HL.out; omega)] at hb0
      rw [hb0] at n1
      have hb1 : wrap64 (a + (l.length : Int)) = b := by rw [IntWalk.wrap64_in _ (by have := HL.out; omega), hb0]
      obtain ⟨m, hm0⟩ : ∃ m, (k : Int) + (i : Int) = m := ⟨_, rfl⟩
      have hm1 : wrap64 ((k : Int) + (i : Int)) = m := by rw [IntWalk.wrap64_in _ (by have := HL.out; omega), hm0]
      rw [hm0] at hm
      have HRl : Hid (((rotF l k).take i).length ≤ 60) := Lib.hid (by rw [List.length_take, rotF_len]; exact Nat.le_trans (Nat.min_le_right _ _) HL.out)
      have j0 : (0 : Int) ≤ (j : Int) := Int.natCast_nonneg j
      have j1 : (j : Int) < (l.length : Int) := Int.ofNat_lt.2 hjl
      have HK := Lib.hid hk
      rw [← hk] at HO
      clear hTa htk hk hj hjl hlt ho hb n2 n3 n4 hb0 hm0
      generalize l.getD j default = y at *
      obtain ⟨yd, yc, yn⟩ := y
      dsimp only at k0 k1 k2
      go_wp2_with (at_builtin; refine wpList_append_x (E := flL) (k := 3) (fun _ => rfl) (by decide) flL_one Tryz.underlying30 infoFl rfl (by decide) rfl _ _ rfl w.heap.size _ ((rotF l k).take i) rfl (HO.out.grown (newF wr _)) _ [⟨yd, yc, yn⟩] rfl (rowx_new (E := flL) (k := 3) (fun _ => rfl) wr ⟨yd, yc, yn⟩ #[.int .i64 yd, .int .i64 yc, .int .i64 yn] (by rfl) 50 _ rfl) (by have := HRl.out; simp at this ⊢; omega) (Nat.le_trans HB.out.size (by simp)) ?_; intro v5 w5 ho5 hg5 hat5; have HO5 := Lib.hid ho5; have HB5 : Hid (Below w.heap.size w w5) := Lib.hid (Below.grown (Below.alloc HB.out HB.out.size _) hg5 (Nat.le_trans HB.out.size (by simp)) (fun k hk => (HO.out.lt k hk).1)); clear ho5 hg5 hat5)
      clear hm hm1 n1 hb1 ha
      go_roundw
      case rel => exact ⟨i + 1, HLt.out, by go_num, by rw [← HK.out, HTk.out]; exact HO5.out, HB5.out⟩
      case measure => have := HLt.out; simp [RowKit.intOf]; omega
    · have hie : i = l.length := by omega
      subst hie
      have p1 : ¬ (l.length : Int) < (l.length : Int) := by omega
      have hrt : (rotF l (rotN fr l.length)).take l.length = rotF l (rotN fr l.length) := List.take_of_length_le (by rw [rotF_len]; exact Nat.le_refl _)
      rw [hrt] at ho
      have hpm := rotF_perm l (rotN fr l.length)
      generalize rotF l (rotN fr l.length) = r at *
      have HN1 := Lib.hid (net_any wr l (by have := HL.out; omega) HI.out _ (HRow.out.keep hb))
      have HN2 := Lib.hid (fun (w' : World) (hb' : Below wr.heap.size wr w') => net_any w' r (by rw [hpm.length_eq]; have := HL.out; omega) (fun x hx => HI.out x (hpm.mem_iff.1 hx)) _ ((OwnX.row (E := flL) (k := 3) (fun _ => rfl) ho).keep hb'))
      have HN3 := Lib.hid (fun (w' : World) (hb' : Below wr.heap.size wr w') => rnet_any w' l (by have := HL.out; omega) HI.out _ (HRow.out.keep (onF hb hb')))
      have HPm := Lib.hid hpm
      obtain ⟨ra, rn, rc, hrn, rfl⟩ : ∃ a n c, n = r.length ∧ u6 = Value.slice a n c := by
        obtain ⟨a, c, h⟩ := ho.slice
        exact ⟨a, _, c, rfl, h⟩
      unfold NetQ at HN1 HN2
      clear hlt hi ho hb hrn hrt hpm HO
      go_wp2_with fail
      refine HN1.out.mono ?_
      rintro e w1 ⟨hb1, v1, m1, e1, rfl, ho1, hl1, hy1, hn1⟩
      have HB1 := Lib.hid hb1
      have HO1 := Lib.hid ho1
      have HM1 := Lib.hid (And.intro hl1 (And.intro hy1 hn1))
      have HN2a := Lib.hid (HN2.out w1 hb1)
      obtain ⟨a1, n1, c1, hn1', rfl⟩ : ∃ a n c, n = m1.length ∧ v1 = Value.slice a n c := by
        obtain ⟨a, c, h⟩ := ho1.slice
        exact ⟨a, _, c, rfl, h⟩
      have HQ1 := Lib.hid hn1'
      clear hb1 ho1 hl1 hy1 hn1 HN1 HN2 hn1'
      go_wp2_with fail
      refine HN2a.out.mono ?_
      rintro e w2 ⟨hb2, v2, m2, e2, rfl, ho2, hl2, hy2, hn2⟩
      have HB2 := Lib.hid (onF HB1.out hb2)
      have HO1b := Lib.hid (HO1.out.grown hb2)
      have HO2 := Lib.hid ho2
      have HM2 := Lib.hid (And.intro hl2 (And.intro hy2 hn2))
      have HN3a := Lib.hid (HN3.out w2 HB2.out)
      obtain ⟨a2, n2, c2, hn2', rfl⟩ : ∃ a n c, n = m2.length ∧ v2 = Value.slice a n c := by
        obtain ⟨a, c, h⟩ := ho2.slice
        exact ⟨a, _, c, rfl, h⟩
      have HQ2 := Lib.hid hn2'
      clear hb2 ho2 hl2 hy2 hn2 HN2a HN3 HO1 hn2'
      by_cases hf : FitsA l
      · obtain ⟨rfl, hs1⟩ := HM1.out.2.1 hf
        obtain ⟨rfl, hs2⟩ := HM2.out.2.1 ((fitsA_perm HPm.out).2 hf)
        obtain rfl : m2 = m1 := hs2.uniq hs1 (fun d c => smDC_perm HPm.out d c)
        have HS1 := Lib.hid hs1
        have HF := Lib.hid hf
        clear hs1 hs2 hf HQ1 HQ2
        go_wp2_with fail
        refine HN3a.out.mono ?_
        rintro e w3 ⟨hb3, v3, m3, ho3, hy3, _⟩
        obtain ⟨rfl, hs3⟩ := hy3 HF.out
        obtain rfl : m3 = m2 := hs3.uniq HS1.out (fun d c => rfl)
        have HB3 := Lib.hid (onF HB2.out hb3)
        have HR1 := Lib.hid (OwnX.row (E := flL) (k := 3) (fun _ => rfl) (HO1b.out.grown hb3))
        have HR2 := Lib.hid (OwnX.row (E := flL) (k := 3) (fun _ => rfl) (HO2.out.grown hb3))
        have HR3 := Lib.hid (OwnX.row (E := flL) (k := 3) (fun _ => rfl) ho3)
        have HN4 := Lib.hid (net_any w3 m3 (by have := HM1.out.1; have := HL.out; omega) (HS1.out.i64 HF.out HI.out) _ HR1.out)
        unfold NetQ at HN4
        obtain ⟨a3, n3, c3, hn3', rfl⟩ : ∃ a n c, n = m3.length ∧ v3 = Value.slice a n c := by
          obtain ⟨a, c, h⟩ := ho3.slice
          exact ⟨a, _, c, rfl, h⟩
        clear hb3 ho3 hy3 hs3 HN3a HO1b HO2 hn3'
        go_wp2_with fail
        refine HN4.out.mono ?_
        rintro e w4 ⟨hb4, v4, m4, e4, rfl, ho4, hl4, hy4, hn4⟩
        obtain ⟨rfl, hs4⟩ := hy4 (HS1.out.fits HF.out)
        obtain rfl : m4 = m3 := hs4.uniq HS1.out (fun d c => HS1.out.sums d c)
        have HB4 := Lib.hid (onF HB3.out hb4)
        have HE1 := Lib.hid (flows_eq w4 m4 _ _ (HR1.out.keep hb4) (HR3.out.keep hb4))
        have HE2 := Lib.hid (fun (w' : World) (hb : Below w4.heap.size w4 w') => flows_eq w' m4 _ _ ((HR2.out.keep hb4).keep hb) ((HR1.out.keep hb4).keep hb))
        have HE3 := Lib.hid (fun (w' : World) (hb : Below w4.heap.size w4 w') => flows_eq w' m4 _ _ ((OwnX.row (E := flL) (k := 3) (fun _ => rfl) ho4).keep hb) ((HR1.out.keep hb4).keep hb))
        obtain ⟨a4, n4, c4, hn4', rfl⟩ : ∃ a n c, n = m4.length ∧ v4 = Value.slice a n c := by
          obtain ⟨a, c, h⟩ := ho4.slice
          exact ⟨a, _, c, rfl, h⟩
        clear hb4 ho4 hl4 hy4 hn4 hs4 HN4 HR1 HR2 HR3 hn4'
        go_wp2_with fail
        refine HE1.out.mono ?_
        rintro e w5 ⟨rfl, hb5⟩
        have HE2a := Lib.hid (HE2.out w5 hb5)
        have HB5 := Lib.hid hb5
        clear hb5 HE1 HE2
        go_wp2_with fail
        refine HE2a.out.mono ?_
        rintro e w6 ⟨rfl, hb6⟩
        have HE3a := Lib.hid (HE3.out w6 (onF HB5.out hb6))
        have HB6 := Lib.hid (onF HB5.out hb6)
        clear hb6 HE2a HE3
        go_wp2_with fail
        refine HE3a.out.mono ?_
        rintro e w7 ⟨rfl, hb7⟩
        have HB7 := Lib.hid (onF HB.out (onF HB4.out (onF HB6.out hb7)))
        clear hb7 HE3a
        go_wp2_with fail
        refine (HAw.out _ HB7.out).mono ?_
        rintro e w8 ⟨rfl, hb8⟩
        have HB8 := Lib.hid (onF HB7.out hb8)
        clear hb8
        go_wp2_with fail
        go_ret
        exact ⟨rfl, HB8.out⟩
      · obtain ⟨rfl, rfl⟩ := HM1.out.2.2 hf
        obtain ⟨rfl, rfl⟩ := HM2.out.2.2 (fun h => hf ((fitsA_perm HPm.out).1 h))
        have HF := Lib.hid hf
        obtain rfl : n1 = 0 := HQ1.out
        obtain rfl : n2 = 0 := HQ2.out
        clear hf
        go_wp2_with fail
        refine HN3a.out.mono ?_
        rintro e w3 ⟨hb3, v3, m3, ho3, _, hn3⟩
        obtain rfl := hn3 HF.out
        have HB3 := Lib.hid (onF HB.out (onF HB2.out hb3))
        obtain ⟨a3, n3, c3, hn3', rfl⟩ : ∃ a n c, n = m3.length ∧ v3 = Value.slice a n c := by
          obtain ⟨a, c, h⟩ := ho3.slice
          exact ⟨a, _, c, rfl, h⟩
        clear hb3 ho3 hn3 HN3a hn3'
        go_wp2_with fail
        refine (HAw.out _ HB3.out).mono ?_
        rintro e w4 ⟨rfl, hb4⟩
        have HB4 := Lib.hid (onF HB3.out hb4)
        clear hb4
        go_wp2_with fail
        go_ret
        exact ⟨rfl, HB4.out⟩

end Go.Proofs.YtgeneoamngfomaaGreatDoor

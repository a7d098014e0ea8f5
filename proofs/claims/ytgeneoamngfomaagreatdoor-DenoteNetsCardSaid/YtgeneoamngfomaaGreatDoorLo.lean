/-
  Contracts of the small functions under package amount: size, signed, signBits, roundUp.
-/
import Derived.Test.YtgeneoamngfomaaGreatDoorProg
import Derived.WalkKit
import Derived.PlainAid
import Derived.Lib.Hide
import Derived.Sort.Row
import Derived.Sort.LotA
import Derived.CellFam
import Derived.BigGuard
import Derived.BigCall
import Derived.RegionTactic
import Derived.BigRegion
import Derived.Deep.Draws
import Derived.Deep.QuietTactic
import Derived.BigQuiet
import Derived.Deep.OwnRows
import Derived.Below
import Derived.WalkMore
import Derived.Deep.LoopGhost
import Derived.Lib.Mul64
import Derived.Lib.BitFns
import Derived.Lib.Strings
import Derived.Lib.Slices
import Derived.Lib.Small
import Derived.Lib.Walk
import Derived.Laws.Bits64b
import Derived.Laws.Externs
import Derived.OwnWalk
import Derived.Laws.AppendOwn
namespace Go.Proofs.YtgeneoamngfomaaGreatDoor
open Go.RowKit

/-- What is told of a number: it, if it fits, else 0; and OK or ErrOver. -/
def inR (n : Int) : Bool := decide (-9223372036854775808 ≤ n ∧ n ≤ 9223372036854775807)
def fitN (n : Int) : Int := if inR n then n else 0
def fitE (n : Int) : Int := if inR n then 0 else 11

theorem inR_iff (n : Int) : inR n = true ↔ (-9223372036854775808 ≤ n ∧ n ≤ 9223372036854775807) := by simp [inR]
theorem fitN_in {n : Int} (h : inR n = true) : fitN n = n := by simp [fitN, h]
theorem fitE_in {n : Int} (h : inR n = true) : fitE n = 0 := by simp [fitE, h]
theorem fitN_out {n : Int} (h : inR n = false) : fitN n = 0 := by simp [fitN, h]
theorem fitE_out {n : Int} (h : inR n = false) : fitE n = 11 := by simp [fitE, h]

def absI (a : Int) : Int := (a.natAbs : Int)

theorem absI_neg {a : Int} (h : a < 0) : absI a = -a := by unfold absI; omega
theorem absI_nonneg {a : Int} (h : 0 ≤ a) : absI a = a := by unfold absI; omega
theorem ret_int {k : IntKind} {a b : Int} (h : a = b) : Ending.returned (.int k a) = .returned (.int k b) := by rw [h]
theorem ret_two {k l : IntKind} {a b c d : Int} (h : a = b) (g : c = d) : Ending.returned (.tuple #[.int k a, .int l c]) = .returned (.tuple #[.int k b, .int l d]) := by rw [h, g]

theorem size_num (a : Int) (h0 : -9223372036854775808 ≤ a) (h : a < 0) : IntKind.u64.wrap (-(IntKind.u64.wrap a)) = absI a := by
  rw [absI_neg h, IntKind.wrap_u64, IntKind.wrap_u64]; omega

theorem size_any (a : Int) (w : World) (h0 : -9223372036854775808 ≤ a) (h1 : a ≤ 9223372036854775807) :
    Calls Tryz.prog 156 #[.int .i64 a] w fun e w' => e = .returned (.int .u64 (absI a)) ∧ w = w' := by
  by_cases h : a < 0
  · go_enter Tryz.func156, Tryz.ntmps156
    go_wp2
    go_ret
    exact ⟨ret_int (size_num a h0 h), rfl⟩
  · go_enter Tryz.func156, Tryz.ntmps156
    go_wp2
    go_ret
    exact ⟨ret_int (absI_nonneg (by omega)).symm, rfl⟩

/-- The number of a size and a sign. -/
def sgn (b : Bool) (m : Int) : Int := if b then -m else m

theorem signed_any (m : Int) (b : Bool) (w : World) (h0 : 0 ≤ m) (h1 : m ≤ 18446744073709551615) :
    Calls Tryz.prog 160 #[.int .u64 m, .bool b] w fun e w' => e = .returned (.tuple #[.int .i64 (fitN (sgn b m)), .int .i64 (fitE (sgn b m))]) ∧ w = w' := by
  cases b
  · by_cases h : 9223372036854775807 < m
    · have hf : inR (sgn false m) = false := by simp [inR, sgn]; omega
      have HN := Lib.hid (fitN_out hf)
      have HE := Lib.hid (fitE_out hf)
      clear hf
      go_enter Tryz.func160, Tryz.ntmps160
      go_wp2
      go_ret2
      exact ⟨ret_two HN.out.symm HE.out.symm, rfl⟩
    · have hf : inR (sgn false m) = true := by simp [inR, sgn]; omega
      have HN := Lib.hid (fitN_in hf)
      have HE := Lib.hid (fitE_in hf)
      clear hf
      go_enter Tryz.func160, Tryz.ntmps160
      go_wp2
      go_ret2
      exact ⟨ret_two HN.out.symm HE.out.symm, rfl⟩
  · by_cases h : 9223372036854775808 < m
    · have hf : inR (sgn true m) = false := by simp [inR, sgn]; omega
      have HN := Lib.hid (fitN_out hf)
      have HE := Lib.hid (fitE_out hf)
      clear hf
      go_enter Tryz.func160, Tryz.ntmps160
      go_wp2
      go_ret2
      exact ⟨ret_two HN.out.symm HE.out.symm, rfl⟩
    · have hf : inR (sgn true m) = true := by simp [inR, sgn]; omega
      have HN := Lib.hid (fitN_in hf)
      have HE := Lib.hid (fitE_in hf)
      have HW : Hid (wrap64 (IntKind.u64.wrap (-m)) = -m) := by
        apply Lib.hid; unfold wrap64; rw [IntKind.wrap_u64]; omega
      clear hf
      go_enter Tryz.func160, Tryz.ntmps160
      go_wp2
      go_ret2
      exact ⟨ret_two (HW.out.trans HN.out.symm) HE.out.symm, rfl⟩

/-- Whether the next number is nearer, or as near and even. -/
def up (q r d : Int) : Int := if d - r < r ∨ (r = d - r ∧ q % 2 = 1) then 1 else 0

theorem roundUp_any (q r d : Int) (w : World) (hq : 0 ≤ q) (hr : 0 ≤ r) (hd : r < d) (hm : d ≤ 18446744073709551615) :
    Calls Tryz.prog 159 #[.int .u64 q, .int .u64 r, .int .u64 d] w fun e w' => e = .returned (.int .u64 (up q r d)) ∧ w = w' := by
  rcases Int.lt_trichotomy (d - r) r with h | h | h
  · have HU : Hid (up q r d = 1) := Lib.hid (by unfold up; rw [if_pos (Or.inl h)])
    go_enter Tryz.func159, Tryz.ntmps159
    go_wp2
    go_ret
    exact ⟨ret_int HU.out.symm, rfl⟩
  · have he : (r == d - r) = true := by simp; omega
    have hn : ¬ (d - r < r) := by omega
    by_cases h2 : q % 2 = 1
    · have HU : Hid (up q r d = 1) := Lib.hid (by unfold up; rw [if_pos (Or.inr ⟨by omega, h2⟩)])
      have h3 : (q % 2 == 1) = true := by simp; omega
      clear h h2
      go_enter Tryz.func159, Tryz.ntmps159
      go_wp2
      go_ret
      exact ⟨ret_int HU.out.symm, rfl⟩
    · have HU : Hid (up q r d = 0) := Lib.hid (by unfold up; rw [if_neg (by omega)])
      have h3 : (q % 2 == 1) = false := by simp; omega
      clear h h2
      go_enter Tryz.func159, Tryz.ntmps159
      go_wp2
      go_ret
      exact ⟨ret_int HU.out.symm, rfl⟩
  · have he : (r == d - r) = false := by simp; omega
    have HU : Hid (up q r d = 0) := Lib.hid (by unfold up; rw [if_neg (by omega)])
    go_enter Tryz.func159, Tryz.ntmps159
    go_wp2
    go_ret
    exact ⟨ret_int HU.out.symm, rfl⟩

end Go.Proofs.YtgeneoamngfomaaGreatDoor

namespace Go.Proofs.YtgeneoamngfomaaGreatDoor
open Go.RowKit Go.Sort
set_option linter.unusedVariables false

theorem cell_other {w : World} {a b : Addr} {v : Value} (h : a ≠ b) : (w.setCell a v).cell? b = w.cell? b := by
  apply World.cell?_setCell_other; exact h
theorem cell_same {w : World} {a : Addr} {u v : Value} (h : w.cell? a = some u) : (w.setCell a v).cell? a = some v := by
  apply World.cell?_setCell_same; exact h

theorem Tryz.infoI : (Tryz.prog.info? 3).map (fun i => (i.zero, i.size, i.bytes)) = some (some (.int .i64 0), 1, 8) := by kernel_rfl
theorem addr_ne_block {b b' o o' : Nat} (h : b ≠ b') : (⟨b, o, none⟩ : Addr) ≠ ⟨b', o', none⟩ := fun e => h (congrArg Addr.block e)
theorem addr_ne_off {b b' o o' : Nat} (h : o ≠ o') : (⟨b, o, none⟩ : Addr) ≠ ⟨b', o', none⟩ := fun e => h (congrArg Addr.off e)
theorem made_at (w : World) (n : Nat) (z : Value) (e : TypeId) (t : Nat) (ht : t < n) : (w.alloc (.cells (madeCells #[z] n) e)).cell? ⟨w.heap.size, 0 + t, none⟩ = some z := by
  rw [World.cell?_alloc_at _ _ _ _ rfl]
  simp [madeCells, ht, Nat.mod_one]

end Go.Proofs.YtgeneoamngfomaaGreatDoor

namespace Go.Proofs.YtgeneoamngfomaaGreatDoor
open Go.RowKit

namespace BitsA
theorem low32 (a : Nat) (ha : a < 18446744073709551616) : bits .and .u64 (a : Int) 4294967295 = ((a % 4294967296 : Nat) : Int) := by
  have h := bits_and_u64_nat a 4294967295 ha (by omega)
  rw [show a &&& 4294967295 = a % 4294967296 from Nat.and_two_pow_sub_one_eq_mod a 32] at h
  exact h
theorem high32 (a : Nat) : (a : Int) / 4294967296 = ((a / 4294967296 : Nat) : Int) := by omega
theorem prodN (a b : Nat) : (a : Int) * (b : Int) = ((a * b : Nat) : Int) := by rw [Int.natCast_mul]
theorem sumN (a b : Nat) : (a : Int) + (b : Int) = ((a + b : Nat) : Int) := by rw [Int.natCast_add]
theorem stays (a : Nat) (ha : a < 18446744073709551616) : IntKind.u64.wrap (a : Int) = (a : Int) := by rw [IntKind.wrap_u64]; omega
theorem rounds (a : Nat) : IntKind.u64.wrap (a : Int) = ((a % 18446744073709551616 : Nat) : Int) := by rw [IntKind.wrap_u64]; omega
end BitsA

set_option maxHeartbeats 1000000 in
theorem mul64_any (x y : Nat) (hx : x < 18446744073709551616) (hy : y < 18446744073709551616) (w : World) :
    Calls Tryz.prog 157 #[.int .u64 x, .int .u64 y] w fun e w' => e = .returned (.tuple #[.int .u64 ((x * y / 18446744073709551616 : Nat) : Int), .int .u64 ((x * y % 18446744073709551616 : Nat) : Int)]) ∧ w = w' := by
  obtain ⟨p00, p10, p01, hi⟩ := Lib.mul64_hi x y hx hy
  have m11 := Lib.half_mul_le (a := x / 4294967296) (b := y / 4294967296) (by omega) (by omega)
  have m10 := Lib.half_mul_le (a := x / 4294967296) (b := y % 4294967296) (by omega) (by omega)
  have m01 := Lib.half_mul_le (a := x % 4294967296) (b := y / 4294967296) (by omega) (by omega)
  have b11 : x / 4294967296 * (y / 4294967296) < 18446744073709551616 := by omega
  have b10 : x / 4294967296 * (y % 4294967296) < 18446744073709551616 := by omega
  have b01 : x % 4294967296 * (y / 4294967296) < 18446744073709551616 := by omega
  have bs : x / 4294967296 * (y / 4294967296) + (x / 4294967296 * (y % 4294967296) + x % 4294967296 * (y % 4294967296) / 4294967296) / 4294967296 < 18446744073709551616 := by omega
  have bt : x / 4294967296 * (y / 4294967296) + (x / 4294967296 * (y % 4294967296) + x % 4294967296 * (y % 4294967296) / 4294967296) / 4294967296 + ((x / 4294967296 * (y % 4294967296) + x % 4294967296 * (y % 4294967296) / 4294967296) % 4294967296 + x % 4294967296 * (y / 4294967296)) / 4294967296 < 18446744073709551616 := by omega
  go_enter Tryz.func157, Tryz.ntmps157
  go_wp2
  simp only [BitsA.low32 x hx, BitsA.low32 y hy, BitsA.high32, BitsA.prodN, BitsA.sumN, BitsA.stays _ p00, BitsA.stays _ b10, BitsA.stays _ p10, BitsA.low32 _ p10, BitsA.stays _ b01, BitsA.stays _ p01, BitsA.stays _ b11, BitsA.stays _ bs, BitsA.stays _ bt, BitsA.rounds (x * y)]
  rw [hi]
  go_ret2
  exact ⟨rfl, rfl⟩

namespace BitsA
theorem tab_get (k : Nat) (h : k < Lib.len8tab.size) : (Lib.len8tab[k]'h).toNat = Lib.bitLen k := by
  have hk : k < 256 := by rw [← Lib.len8tab_size]; exact h
  have e := Lib.len8_eq ⟨k, hk⟩
  have e2 : Lib.len8 (k : Int) = ((Lib.len8tab[k]'h).toNat : Int) := by
    unfold Lib.len8
    rw [show ((k : Int)).toNat = k from rfl, getElem?_pos Lib.len8tab k h]; rfl
  have e3 : (((Lib.len8tab[k]'h).toNat : Nat) : Int) = ((Lib.bitLen k : Nat) : Int) := by rw [← e2]; exact e
  exact Int.ofNat.inj e3
theorem len_zero (x : Int) (h : x.toNat < Lib.len8tab.size) : wrap64 (wrap64 ((Lib.len8tab[x.toNat]'h).toNat : Int)) = ((Lib.bitLen x.toNat : Nat) : Int) := by
  have hb := (Lib.len8tab[x.toNat]'h).toNat_lt
  have e := tab_get _ h
  rw [IntWalk.wrap64_in ((Lib.len8tab[x.toNat]'h).toNat : Int) (by omega), IntWalk.wrap64_in _ (by omega), e]
theorem len_end (s : Nat) (S x y : Int) (h : y.toNat < Lib.len8tab.size) (hS : S = (s : Int)) (hs : s ≤ 56) (hy : y.toNat = x.toNat / 2 ^ s) (hx : 2 ^ s ≤ x.toNat) (h64 : x.toNat < 2 ^ 64) :
    wrap64 (S + wrap64 ((Lib.len8tab[y.toNat]'h).toNat : Int)) = ((Lib.bitLen x.toNat : Nat) : Int) := by
  have hb := (Lib.len8tab[y.toNat]'h).toNat_lt
  have e := tab_get _ h
  have e2 := Lib.bitLen_shift s x.toNat hx h64
  rw [← hy, ← e] at e2
  rw [IntWalk.wrap64_in ((Lib.len8tab[y.toNat]'h).toNat : Int) (by omega), IntWalk.wrap64_in _ (by omega), e2]
  omega
end BitsA

set_option maxHeartbeats 4000000 in
set_option maxRecDepth 100000 in
theorem len64_any (x : Int) (w : World) (h0 : 0 ≤ x) (h1 : x ≤ 18446744073709551615) :
    Calls Tryz.prog 96 #[.int .u64 x] w fun e w' => e = .returned (.int .i64 (Lib.bitLen x.toNat)) ∧ w = w' := by
  have hsz := Lib.len8tab_size
  go_enter Tryz.func96, Tryz.ntmps96
  go_wp2
  all_goals (go_ret; refine ⟨ret_int ?_, rfl⟩)
  · exact BitsA.len_end 56 _ x _ _ rfl (by omega) (by omega) (by omega) (by omega)
  · exact BitsA.len_end 48 _ x _ _ rfl (by omega) (by omega) (by omega) (by omega)
  · exact BitsA.len_end 40 _ x _ _ rfl (by omega) (by omega) (by omega) (by omega)
  · exact BitsA.len_end 32 _ x _ _ rfl (by omega) (by omega) (by omega) (by omega)
  · exact BitsA.len_end 24 _ x _ _ rfl (by omega) (by omega) (by omega) (by omega)
  · exact BitsA.len_end 16 _ x _ _ rfl (by omega) (by omega) (by omega) (by omega)
  · exact BitsA.len_end 8 _ x _ _ rfl (by omega) (by omega) (by omega) (by omega)
  · exact BitsA.len_zero x _

theorem lz64_any (x : Int) (w : World) (h0 : 0 ≤ x) (h1 : x ≤ 18446744073709551615) :
    Calls Tryz.prog 169 #[.int .u64 x] w fun e w' => e = .returned (.int .i64 (64 - (Lib.bitLen x.toNat : Int))) ∧ w = w' := by
  have hb := Lib.bitLen_le x.toNat 64 (by omega) (by omega)
  go_enter Tryz.func169, Tryz.ntmps169
  go_wp2_with (go_at_call 96; refine (len64_any _ _ h0 h1).mono ?_; rintro e w' ⟨rfl, rfl⟩)
  go_ret
  exact ⟨rfl, rfl⟩

theorem add64_run (x y : Int) (h0 : 0 ≤ x) (g0 : 0 ≤ y) (w : World) :
    (callFunc 72 #[.int .u64 x, .int .u64 y, .int .u64 0]).run Tryz.prog w =
      .ok (.value (.tuple #[.int .u64 ((x + y) % 18446744073709551616), .int .u64 ((x + y) / 18446744073709551616)])) w := by
  rw [run_callFunc_extern Tryz.func72 (by kernel_rfl) (by kernel_rfl) (by kernel_rfl) (e := add64Entry) (by kernel_rfl), run_add64 x y 0 h0 g0 (by omega) (by omega), Int.add_zero]
  rfl

/-- How many bits a number has. -/
theorem bitLen_bounds : ∀ (k x : Nat), x ≤ k → x ≠ 0 → x < 2 ^ 64 → 1 ≤ Lib.bitLen x ∧ 2 ^ (Lib.bitLen x - 1) ≤ x ∧ x < 2 ^ Lib.bitLen x := by
  intro k
  induction k with
  | zero => intro x h h0; omega
  | succ k ih =>
    intro x hk h0 h64
    rw [Lib.bitLen_half x h0 h64]
    by_cases h1 : x = 1
    · subst h1; refine ⟨by omega, ?_, ?_⟩ <;> decide
    · obtain ⟨a, b, c⟩ := ih (x / 2) (by omega) (by omega) (by omega)
      obtain ⟨m, hm⟩ : ∃ m, Lib.bitLen (x / 2) = m + 1 := ⟨Lib.bitLen (x / 2) - 1, by omega⟩
      rw [hm] at b c ⊢
      simp only [Nat.add_sub_cancel] at b
      refine ⟨by omega, ?_, ?_⟩
      · rw [show 1 + (m + 1) - 1 = m + 1 from by omega, Nat.pow_succ]; omega
      · rw [show 1 + (m + 1) = (m + 1) + 1 from by omega, Nat.pow_succ]; omega

/-- A number, shifted till its highest bit is the 64th. -/
theorem norm_bounds (y : Nat) (h0 : y ≠ 0) (h : y < 2 ^ 64) :
    64 - Lib.bitLen y ≤ 63 ∧ 9223372036854775808 ≤ y * 2 ^ (64 - Lib.bitLen y) ∧ y * 2 ^ (64 - Lib.bitLen y) < 18446744073709551616 := by
  obtain ⟨a, b, c⟩ := bitLen_bounds y y (Nat.le_refl _) h0 h
  have hb := Lib.bitLen_le y 64 (Nat.le_refl _) h
  generalize hn : Lib.bitLen y = n at *
  refine ⟨by omega, ?_, ?_⟩
  · have := Nat.mul_le_mul_right (2 ^ (64 - n)) b
    rw [← Nat.pow_add, show n - 1 + (64 - n) = 63 from by omega] at this
    exact this
  · have := Nat.mul_lt_mul_of_pos_right c (Nat.two_pow_pos (64 - n))
    rw [← Nat.pow_add, show n + (64 - n) = 64 from by omega] at this
    exact this

end Go.Proofs.YtgeneoamngfomaaGreatDoor

namespace Go.Proofs.YtgeneoamngfomaaGreatDoor
open Go.RowKit
set_option linter.unusedVariables false

/-- A slice of numbers lies in memory. -/
def Row (w : World) (b o : Nat) (l : List Int) : Prop := ∀ t, t < l.length → w.cell? ⟨b, o + t, none⟩ = some (.int .i64 (l.getD t 0))
end Go.Proofs.YtgeneoamngfomaaGreatDoor

namespace Go.Proofs.YtgeneoamngfomaaGreatDoor
open Go.RowKit
set_option linter.unusedVariables false

/-- A slice of the call's own, in a block from base on, holds a list. -/
def Own (w : World) (base : Nat) (v : Value) (l : List Int) : Prop := w.ownsRow base 3 1 v l.length (l.map (Value.int .i64))

theorem Own.nil (w : World) (base : Nat) : Own w base (.slice none 0 0) [] := World.ownsRow_nil _ _ _ _

theorem Own.reads {w : World} {base : Nat} {v : Value} {l : List Int} (h : Own w base v l) :
    (v = .slice none 0 0 ∧ l = []) ∨ ∃ g cap, v = .slice (some ⟨g, 0, none⟩) l.length cap ∧ base ≤ g ∧ g < w.heap.size ∧ Row w g 0 l := by
  obtain ⟨h1, h2⟩ := h
  rcases h2 with ⟨rfl, hn⟩ | ⟨g, cap, cur, rfl, hb, hc, h3, h4, h5, h6⟩
  · exact Or.inl ⟨rfl, List.length_eq_zero_iff.1 hn⟩
  · refine Or.inr ⟨g, cap, rfl, hb, ?_, ?_⟩
    · rcases Nat.lt_or_ge g w.heap.size with k | k
      · exact k
      · rw [Array.getElem?_eq_none k] at hc; cases hc
    · intro t ht
      have e : cur[t]? = some (.int .i64 (l.getD t 0)) := by
        have : (cur.toList.take (l.length * 1))[t]? = (l.map (Value.int .i64))[t]? := by rw [h6]
        rw [List.getElem?_take, if_pos (by omega), List.getElem?_map, List.getElem?_eq_getElem ht] at this
        rw [List.getD_eq_getElem?_getD, List.getElem?_eq_getElem ht]
        simpa using this
      rw [Nat.zero_add]
      unfold World.cell?
      rw [hc]; exact e

theorem Own.grown {w w' : World} {base : Nat} {v : Value} {l : List Int} (h : Own w base v l) (hg : Below (w.heap.size) w w') : Own w' base v l := by
  obtain ⟨h1, h2⟩ := h
  refine ⟨h1, ?_⟩
  rcases h2 with h2 | ⟨g, cap, cur, rfl, hb, hc, h3⟩
  · exact Or.inl h2
  · refine Or.inr ⟨g, cap, cur, rfl, hb, ?_, h3⟩
    rw [hg.block g (by
      rcases Nat.lt_or_ge g w.heap.size with k | k
      · exact k
      · rw [Array.getElem?_eq_none k] at hc; cases hc)]
    exact hc

/-- One more number, behind the law on append. -/
theorem own_snoc {w' : World} {base : Nat} {v' : Value} {l : List Int} {x : Int} (h : w'.ownsRow base 3 1 v' (l.length + 1) (l.map (Value.int .i64) ++ [.int .i64 x])) : Own w' base v' (l ++ [x]) := by
  unfold Own
  rw [List.length_append, List.map_append]; exact h

theorem one_cell (w : World) (x : Int) (e : TypeId) : ∀ j u, [Value.int .i64 x][j]? = some u → (w.alloc (.cells #[.int .i64 x] e)).cell? ((⟨w.heap.size, 0, none⟩ : Addr).add j) = some u := by
  intro j u hj
  match j, hj with
  | 0, hj => simp at hj; subst hj; simp [Addr.add]
theorem one_one (x : Int) : ∀ u ∈ [Value.int .i64 x], u.oneCell' = true := by intro u hu; simp at hu; subst hu; rfl

/-- Below, behind an append to a slice of the call's own. -/
theorem below_append {B base : Nat} {w0 w w' : World} {v : Value} {l : List Int} (hb : Below B w0 w) (ho : Own w base v l) (hB : B ≤ base) (hw : B ≤ w.heap.size) {o : Obj} (hg : (w.alloc o).grownBy w' v.ownBlock) : Below B w0 w' := by
  refine (hb.alloc hw o).grown hg (by simp; omega) (fun k hk => ?_)
  have := World.ownsRow.lt ho k hk
  omega

end Go.Proofs.YtgeneoamngfomaaGreatDoor
